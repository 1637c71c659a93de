/-
  scrutineerlaw10.ConfQuorums answers true for every input and leaves its input as it was; no condition.
-/
import Derived.Test.YtlcgihdphdkhpaaOpen10
import Derived.Test.YtlcgihdphdkhpaaKeep10
import Derived.Test.YtlcgihdphdkhpaaHeld
import Derived.Test.YtlcgihdphdkhpaaLaw
namespace Go.Proofs.Ytlcgihdphdkhpaa.confQuorums
open Go.ChangeShapes Go.WideShapes Go.ChangeAt Go.RowKit

set_option maxRecDepth 100000 in
theorem walk_long (C : Nat) (A1 : Option Addr) (n1 c1 : Nat) (A2 : Option Addr) (n2 c2 : Nat) (key : UInt8) (a : Nat) (w : World) (hg : (decide (80 < n1) || decide (80 < n2)) = true) (h1 : n1 ≤ maxLen) (h2 : n2 ≤ maxLen) :
    Calls Try.prog 3 #[.agg #[.int .u64 C, .slice A1 n1 c1, .slice A2 n2 c2], .int .u8 (key.toNat : Int), .int .u64 a] w fun e w' => e = .returned (.bool true) ∧ Below w.heap.size w w' := by
  have HG := hide_ (fun u => great10_any C A1 n1 c1 A2 n2 c2 u h1 h2)
  rw [hg] at HG
  clear hg h1 h2
  have HB0 := hide_ ((Below.refl w.heap.size w).alloc (Nat.le_refl _) (.cells #[.int .u64 C, .slice A1 n1 c1, .slice A2 n2 c2] 25))
  have HX0 := hide_ (BoxAt.new w #[.int .u64 C, .slice A1 n1 c1, .slice A2 n2 c2] 25)
  obtain ⟨W0, hW0⟩ : ∃ W0, w.alloc (.cells #[.int .u64 C, .slice A1 n1 c1, .slice A2 n2 c2] 25) = W0 := ⟨_, rfl⟩
  rw [hW0] at HB0 HX0
  have HW0 := hide_ hW0
  have hs0 : w.heap.size < W0.heap.size := HX0.out.lt
  clear hW0
  go_enter Try.func3, Try.ntmps3
  go_upto_region 1 with fail
  rw [HW0.out]
  have c0 := HX0.out.cell 0
  have c1' := HX0.out.cell 1
  have c2' := HX0.out.cell 2
  simp at c0 c1' c2'
  go_wp2_with fail
  refine (HG.out _).mono ?_
  rintro e w1 ⟨rfl, hb1⟩
  have HB1 := hide_ (HB0.out.trans (hb1.mono HB0.out.size))
  clear hb1
  go_wp2_with fail
  refine (awake10_any _).mono ?_
  rintro e wz ⟨rfl, hbz⟩
  go_wp2
  go_ret
  exact ⟨rfl, HB1.out.trans (hbz.mono HB1.out.size)⟩

set_option maxRecDepth 100000 in
set_option maxHeartbeats 3200000 in
set_option linter.unusedSimpArgs false in
theorem walk_short (C : Nat) (A1 : Option Addr) (n1 c1 : Nat) (l1 : List UInt8) (A2 : Option Addr) (n2 c2 : Nat) (l2 : List UInt8) (key : UInt8) (a : Nat) (w : World) (_hC : C < 18446744073709551616) (e1 : l1.length = n1) (s1 : Sees w w.heap.size A1 (bv l1)) (e2 : l2.length = n2) (s2 : Sees w w.heap.size A2 (bv l2)) (h1 : n1 ≤ 80) (h2 : n2 ≤ 80) (ha : a < 18446744073709551616) :
    Calls Try.prog 3 #[.agg #[.int .u64 C, .slice A1 n1 c1, .slice A2 n2 c2], .int .u8 (key.toNat : Int), .int .u64 a] w fun e w' => e = .returned (.bool true) ∧ Below w.heap.size w w' := by
  subst e1 e2
  have HG := hide_ (fun u => great10_any C A1 l1.length c1 A2 l2.length c2 u (by unfold maxLen; omega) (by unfold maxLen; omega))
  rw [show (decide (80 < l1.length) || decide (80 < l2.length)) = false by simp; omega] at HG
  have HOX := hide_ (fun (u : World) (hu : Below w.heap.size w u) => show NdM.ok u w.heap.size ⟨A1, c1, l1⟩ from ⟨by show l1.length ≤ 100; omega, s1.below hu⟩)
  have HOY := hide_ (fun (u : World) (hu : Below w.heap.size w u) => show NdM.ok u w.heap.size ⟨A2, c2, l2⟩ from ⟨by show l2.length ≤ 100; omega, s2.below hu⟩)
  have HW := hide_ (fun (u : World) (hu : Below w.heap.size w u) => hu.size)
  have HMAY0 := hide_ (fun (u : World) (hu : Below w.heap.size w u) => cMay_any C ⟨A1, c1, l1⟩ ⟨A2, c2, l2⟩ w.heap.size u (HOX.out u hu) (HOY.out u hu) hu.size)
  have HRMAY0 := hide_ (fun (u : World) (hu : Below w.heap.size w u) => refMay10_any C ⟨A1, c1, l1⟩ ⟨A2, c2, l2⟩ w.heap.size u (HOX.out u hu) (HOY.out u hu) hu.size)
  have HBT0 := hide_ (fun (u : World) => Between_any C ⟨A1, c1, l1⟩ ⟨A2, c2, l2⟩ u)
  have HQU0 := hide_ (fun (u : World) (hu : Below w.heap.size w u) => Quorum_any C ⟨A1, c1, l1⟩ ⟨A2, c2, l2⟩ key a w.heap.size u (HOX.out u hu) (HOY.out u hu) hu.size ha)
  have HRQU0 := hide_ (fun (u : World) (hu : Below w.heap.size w u) => refQuorum_any C ⟨A1, c1, l1⟩ ⟨A2, c2, l2⟩ key a w.heap.size u (HOX.out u hu) (HOY.out u hu) hu.size ha)
  have HAL0 := hide_ (fun (u : World) (hu : Below w.heap.size w u) => All_any C ⟨A1, c1, l1⟩ ⟨A2, c2, l2⟩ key a w.heap.size u (HOX.out u hu) (HOY.out u hu) hu.size ha)
  have HRAL0 := hide_ (fun (u : World) (hu : Below w.heap.size w u) => refAll_any C ⟨A1, c1, l1⟩ ⟨A2, c2, l2⟩ key a w.heap.size u (HOX.out u hu) (HOY.out u hu) hu.size ha)
  have HKE0 := hide_ (fun (u : World) (hu : Below w.heap.size w u) => Keepers10_any C ⟨A1, c1, l1⟩ ⟨A2, c2, l2⟩ key w.heap.size u (HOX.out u hu) (HOY.out u hu) hu.size)
  have HRKE0 := hide_ (fun (u : World) (hu : Below w.heap.size w u) => refKeepers10_any C ⟨A1, c1, l1⟩ ⟨A2, c2, l2⟩ key w.heap.size u (HOX.out u hu) (HOY.out u hu) hu.size)
  have hbt : decide (C % 2 = 1) = ((C : Int).tmod 2 == 1) := by
    rw [Int.tmod_eq_emod_of_nonneg (by omega), Bool.eq_iff_iff, beq_iff_eq, decide_eq_true_eq]
    omega
  obtain ⟨my, hmy⟩ : ∃ b, mayC C l1 l2 = b := ⟨_, rfl⟩
  obtain ⟨qu, hqu⟩ : ∃ b, quoC C l1 l2 key a = b := ⟨_, rfl⟩
  obtain ⟨al, hal⟩ : ∃ b, allC C l1 l2 key a = b := ⟨_, rfl⟩
  obtain ⟨kp, hkp⟩ : ∃ b, keepC C l1 l2 key = b := ⟨_, rfl⟩
  simp only [cfV, NdM.v, hmy, hbt, hqu, hal, hkp] at HMAY0 HRMAY0 HBT0 HQU0 HRQU0 HAL0 HRAL0 HKE0 HRKE0
  clear hmy hbt hqu hal hkp
  have HB0 := hide_ ((Below.refl w.heap.size w).alloc (Nat.le_refl _) (.cells #[.int .u64 C, .slice A1 l1.length c1, .slice A2 l2.length c2] 25))
  have HX0 := hide_ (BoxAt.new w #[.int .u64 C, .slice A1 l1.length c1, .slice A2 l2.length c2] 25)
  obtain ⟨W0, hW0⟩ : ∃ W0, w.alloc (.cells #[.int .u64 C, .slice A1 l1.length c1, .slice A2 l2.length c2] 25) = W0 := ⟨_, rfl⟩
  rw [hW0] at HB0 HX0
  have HW0 := hide_ hW0
  have hs0 : w.heap.size < W0.heap.size := HX0.out.lt
  clear hW0
  go_enter Try.func3, Try.ntmps3
  go_upto_region 1 with fail
  rw [HW0.out]
  have c0 := HX0.out.cell 0
  have c1' := HX0.out.cell 1
  have c2' := HX0.out.cell 2
  simp at c0 c1' c2'
  go_wp2_with fail
  refine (HG.out _).mono ?_
  rintro e w1 ⟨rfl, hb1⟩
  have HB1 := hide_ (HB0.out.trans (hb1.mono HB0.out.size))
  have HX1 := hide_ (HX0.out.below hb1)
  have hs1 : w.heap.size < w1.heap.size := HX1.out.lt
  clear hb1 c0 c1' c2'
  have c0 := HX1.out.cell 0
  have c1' := HX1.out.cell 1
  have c2' := HX1.out.cell 2
  simp at c0 c1' c2'
  have HCELL := hide_ (fun (u : World) (hu : Below w1.heap.size w1 u) => show u.cell? ⟨w.heap.size, 0, none⟩ = some (.int .u64 C) ∧ u.cell? ⟨w.heap.size, 1, none⟩ = some (.slice A1 l1.length c1) ∧ u.cell? ⟨w.heap.size, 2, none⟩ = some (.slice A2 l2.length c2) from by
    have h := HX1.out.below hu
    have c0 := h.cell 0
    have c1' := h.cell 1
    have c2' := h.cell 2
    simp at c0 c1' c2'
    exact ⟨c0, c1', c2'⟩)
  have HWU := hide_ (fun (u : World) (hu : Below w1.heap.size w1 u) => HB1.out.trans (hu.mono HB1.out.size))
  have HMAY := hide_ (fun (u : World) (hu : Below w1.heap.size w1 u) => HMAY0.out u (HWU.out u hu))
  have HRMAY := hide_ (fun (u : World) (hu : Below w1.heap.size w1 u) => HRMAY0.out u (HWU.out u hu))
  have HQU := hide_ (fun (u : World) (hu : Below w1.heap.size w1 u) => HQU0.out u (HWU.out u hu))
  have HRQU := hide_ (fun (u : World) (hu : Below w1.heap.size w1 u) => HRQU0.out u (HWU.out u hu))
  have HAL := hide_ (fun (u : World) (hu : Below w1.heap.size w1 u) => HAL0.out u (HWU.out u hu))
  have HRAL := hide_ (fun (u : World) (hu : Below w1.heap.size w1 u) => HRAL0.out u (HWU.out u hu))
  have HKE := hide_ (fun (u : World) (hu : Below w1.heap.size w1 u) => HKE0.out u (HWU.out u hu))
  have HRKE := hide_ (fun (u : World) (hu : Below w1.heap.size w1 u) => HRKE0.out u (HWU.out u hu))
  have HBT := hide_ (fun (u : World) (_ : Below w1.heap.size w1 u) => HBT0.out u)
  have HAW := hide_ (fun (u : World) (_ : Below w1.heap.size w1 u) => awake10_any u)
  have HQ_w1 := hide_ (Below.refl w1.heap.size w1)
  clear HMAY0 HRMAY0 HBT0 HQU0 HRQU0 HAL0 HRAL0 HKE0 HRKE0 c0 c1' c2' HW
  go_upto_region 3 with fail
  refine wp_region_held_drew (S := fun u => Below w1.heap.size w1 u) (by kernel_rfl) ((Below.refl _ _).drew) (fun hHeld => ?_)
  refine wpAnyH_take (i := 0) (oi := ⟨some 10, _, _, _, _, _⟩) (v := ?hv1) rfl (by kernel_rfl) (by kernel_rfl) (by kernel_rfl) (fun _ _ _ h => h) (Or.inl ⟨by rfl, ?hyy1⟩) (by assumption) ?hrest1
  case hyy1 => intro w hSw; (try dsimp only at hSw); have hcb := HCELL.out _ (HQ_w1.out.trans (hSw.mono HQ_w1.out.size)); obtain ⟨hc0, hc1, hc2⟩ := hcb; go_simp <;> with_reducible rfl
  simp only [Act.put, List.setIfInBounds_toArray, List.set_cons_zero, List.set_cons_succ]
  refine wpAnyH_take (i := 2) (oi := ⟨some 12, _, _, _, _, _⟩) (v := ?hv2) rfl (by kernel_rfl) (by kernel_rfl) (by kernel_rfl) (fun _ _ _ h => h) (Or.inl ⟨by rfl, ?hyy2⟩) (by assumption) ?hrest2
  case hyy2 => intro w hSw; (try dsimp only at hSw); have hcb := HCELL.out _ (HQ_w1.out.trans (hSw.mono HQ_w1.out.size)); obtain ⟨hc0, hc1, hc2⟩ := hcb; go_simp <;> with_reducible rfl
  simp only [Act.put, List.setIfInBounds_toArray, List.set_cons_zero, List.set_cons_succ]
  refine wpAnyH_ready (rs := [1]) (by kernel_rfl) (by simp) ?_
  refine AllReadyH.cons rfl (fun K hK => ?_) AllReadyH.nil
  go_simp
  go_wp2_with fail
  refine (HMAY.out _ (HQ_w1.out.trans (hHeld.mono HQ_w1.out.size))).mono ?_
  rintro e v1 ⟨rfl, hb_⟩
  have HP_v1 := hide_ (hHeld.trans (hb_.mono hHeld.size))
  have HQ_v1 := hide_ (HQ_w1.out.trans (HP_v1.out.mono HQ_w1.out.size))
  clear hb_
  refine hK.out _ _ (HP_v1.out) (fun hHeld => ?_)
  clear hK K hHeld
  refine wpAnyH_more (S' := fun u => Below v1.heap.size v1 u) (fun u hu => HP_v1.out.trans (hu.mono HP_v1.out.size)) _ _ _ _ ?_
  have hHeld := Below.refl v1.heap.size v1
  refine wpAnyH_ready (rs := [3]) (by kernel_rfl) (by simp) ?_
  refine AllReadyH.cons rfl (fun K hK => ?_) AllReadyH.nil
  go_simp
  go_wp2_with fail
  refine (HRMAY.out _ (HQ_v1.out.trans (hHeld.mono HQ_v1.out.size))).mono ?_
  rintro e v2 ⟨rfl, hb_⟩
  have HP_v2 := hide_ (hHeld.trans (hb_.mono hHeld.size))
  have HQ_v2 := hide_ (HQ_v1.out.trans (HP_v2.out.mono HQ_v1.out.size))
  clear hb_
  refine hK.out _ _ (HP_v2.out) (fun hHeld => ?_)
  clear hK K hHeld
  refine wpAnyH_more (S' := fun u => Below v2.heap.size v2 u) (fun u hu => HP_v2.out.trans (hu.mono HP_v2.out.size)) _ _ _ _ ?_
  have hHeld := Below.refl v2.heap.size v2
  refine wpAnyH_take (i := 4) (oi := ⟨some 14, _, _, _, _, _⟩) (v := ?hv3) rfl (by kernel_rfl) (by kernel_rfl) (by kernel_rfl) (fun _ _ _ h => h) (Or.inl ⟨by rfl, ?hyy3⟩) (by assumption) ?hrest3
  case hyy3 => intro w hSw; (try dsimp only at hSw); go_simp <;> with_reducible rfl
  simp only [Act.put, List.setIfInBounds_toArray, List.set_cons_zero, List.set_cons_succ]
  refine wpAnyH_take (i := 5) (oi := ⟨some 15, _, _, _, _, _⟩) (v := ?hv4) rfl (by kernel_rfl) (by kernel_rfl) (by kernel_rfl) (fun _ _ _ h => h) (Or.inl ⟨by rfl, ?hyy4⟩) (by assumption) ?hrest4
  case hyy4 => intro w hSw; (try dsimp only at hSw); go_simp <;> with_reducible rfl
  simp only [Act.put, List.setIfInBounds_toArray, List.set_cons_zero, List.set_cons_succ]
  refine wpAnyH_take (i := 6) (oi := ⟨some 16, _, _, _, _, _⟩) (v := ?hv5) rfl (by kernel_rfl) (by kernel_rfl) (by kernel_rfl) (fun _ _ _ h => h) (Or.inl ⟨by rfl, ?hyy5⟩) (by assumption) ?hrest5
  case hyy5 => intro w hSw; (try dsimp only at hSw); have hcb := HCELL.out _ (HQ_v2.out.trans (hSw.mono HQ_v2.out.size)); obtain ⟨hc0, hc1, hc2⟩ := hcb; go_simp <;> with_reducible rfl
  simp only [Act.put, List.setIfInBounds_toArray, List.set_cons_zero, List.set_cons_succ]
  refine wpAnyH_take (i := 8) (oi := ⟨some 18, _, _, _, _, _⟩) (v := ?hv6) rfl (by kernel_rfl) (by kernel_rfl) (by kernel_rfl) (fun _ _ _ h => h) (Or.inl ⟨by rfl, ?hyy6⟩) (by assumption) ?hrest6
  case hyy6 => intro w hSw; (try dsimp only at hSw); go_simp <;> with_reducible rfl
  simp only [Act.put, List.setIfInBounds_toArray, List.set_cons_zero, List.set_cons_succ]
  refine wpAnyH_take (i := 9) (oi := ⟨some 19, _, _, _, _, _⟩) (v := ?hv7) rfl (by kernel_rfl) (by kernel_rfl) (by kernel_rfl) (fun _ _ _ h => h) (Or.inl ⟨by rfl, ?hyy7⟩) (by assumption) ?hrest7
  case hyy7 => intro w hSw; (try dsimp only at hSw); have hcb := HCELL.out _ (HQ_v2.out.trans (hSw.mono HQ_v2.out.size)); obtain ⟨hc0, hc1, hc2⟩ := hcb; go_simp <;> with_reducible rfl
  simp only [Act.put, List.setIfInBounds_toArray, List.set_cons_zero, List.set_cons_succ]
  refine wpAnyH_take (i := 10) (oi := ⟨some 20, _, _, _, _, _⟩) (v := ?hv8) rfl (by kernel_rfl) (by kernel_rfl) (by kernel_rfl) (fun _ _ _ h => h) (Or.inl ⟨by rfl, ?hyy8⟩) (by assumption) ?hrest8
  case hyy8 => intro w hSw; (try dsimp only at hSw); go_simp <;> with_reducible rfl
  simp only [Act.put, List.setIfInBounds_toArray, List.set_cons_zero, List.set_cons_succ]
  refine wpAnyH_take (i := 11) (oi := ⟨some 21, _, _, _, _, _⟩) (v := ?hv9) rfl (by kernel_rfl) (by kernel_rfl) (by kernel_rfl) (fun _ _ _ h => h) (Or.inl ⟨by rfl, ?hyy9⟩) (by assumption) ?hrest9
  case hyy9 => intro w hSw; (try dsimp only at hSw); go_simp <;> with_reducible rfl
  simp only [Act.put, List.setIfInBounds_toArray, List.set_cons_zero, List.set_cons_succ]
  refine wpAnyH_ready (rs := [7]) (by kernel_rfl) (by simp) ?_
  refine AllReadyH.cons rfl (fun K hK => ?_) AllReadyH.nil
  go_simp
  go_wp2_with fail
  refine (HBT.out _ (HQ_v2.out.trans (hHeld.mono HQ_v2.out.size))).mono ?_
  rintro e v3 ⟨rfl, hb_⟩
  have HP_v3 := hide_ (hHeld.trans (hb_.mono hHeld.size))
  have HQ_v3 := hide_ (HQ_v2.out.trans (HP_v3.out.mono HQ_v2.out.size))
  clear hb_
  refine hK.out _ _ (HP_v3.out) (fun hHeld => ?_)
  clear hK K hHeld
  refine wpAnyH_more (S' := fun u => Below v3.heap.size v3 u) (fun u hu => HP_v3.out.trans (hu.mono HP_v3.out.size)) _ _ _ _ ?_
  have hHeld := Below.refl v3.heap.size v3
  refine wpAnyH_take (i := 12) (oi := ⟨some 22, _, _, _, _, _⟩) (v := ?hv10) rfl (by kernel_rfl) (by kernel_rfl) (by kernel_rfl) (fun _ _ _ h => h) (Or.inl ⟨by rfl, ?hyy10⟩) (by assumption) ?hrest10
  case hyy10 => intro w hSw; (try dsimp only at hSw); go_simp <;> with_reducible rfl
  simp only [Act.put, List.setIfInBounds_toArray, List.set_cons_zero, List.set_cons_succ]
  refine wpAnyH_take (i := 13) (oi := ⟨some 23, _, _, _, _, _⟩) (v := ?hv11) rfl (by kernel_rfl) (by kernel_rfl) (by kernel_rfl) (fun _ _ _ h => h) (Or.inl ⟨by rfl, ?hyy11⟩) (by assumption) ?hrest11
  case hyy11 => intro w hSw; (try dsimp only at hSw); go_simp <;> with_reducible rfl
  simp only [Act.put, List.setIfInBounds_toArray, List.set_cons_zero, List.set_cons_succ]
  refine wpAnyH_take (i := 14) (oi := ⟨some 24, _, _, _, _, _⟩) (v := ?hv12) rfl (by kernel_rfl) (by kernel_rfl) (by kernel_rfl) (fun _ _ _ h => h) (Or.inl ⟨by rfl, ?hyy12⟩) (by assumption) ?hrest12
  case hyy12 => intro w hSw; (try dsimp only at hSw); go_simp <;> with_reducible rfl
  simp only [Act.put, List.setIfInBounds_toArray, List.set_cons_zero, List.set_cons_succ]
  refine wpAnyH_take (i := 15) (oi := ⟨some 25, _, _, _, _, _⟩) (v := ?hv13) rfl (by kernel_rfl) (by kernel_rfl) (by kernel_rfl) (fun _ _ _ h => h) (Or.inl ⟨by rfl, ?hyy13⟩) (by assumption) ?hrest13
  case hyy13 => intro w hSw; (try dsimp only at hSw); have hcb := HCELL.out _ (HQ_v3.out.trans (hSw.mono HQ_v3.out.size)); obtain ⟨hc0, hc1, hc2⟩ := hcb; go_simp <;> with_reducible rfl
  simp only [Act.put, List.setIfInBounds_toArray, List.set_cons_zero, List.set_cons_succ]
  refine wpAnyH_take (i := 16) (oi := ⟨some 26, _, _, _, _, _⟩) (v := ?hv14) rfl (by kernel_rfl) (by kernel_rfl) (by kernel_rfl) (fun _ _ _ h => h) (Or.inl ⟨by rfl, ?hyy14⟩) (by assumption) ?hrest14
  case hyy14 => intro w hSw; (try dsimp only at hSw); go_simp <;> with_reducible rfl
  simp only [Act.put, List.setIfInBounds_toArray, List.set_cons_zero, List.set_cons_succ]
  refine wpAnyH_take (i := 17) (oi := ⟨some 27, _, _, _, _, _⟩) (v := ?hv15) rfl (by kernel_rfl) (by kernel_rfl) (by kernel_rfl) (fun _ _ _ h => h) (Or.inl ⟨by rfl, ?hyy15⟩) (by assumption) ?hrest15
  case hyy15 => intro w hSw; (try dsimp only at hSw); go_simp <;> with_reducible rfl
  simp only [Act.put, List.setIfInBounds_toArray, List.set_cons_zero, List.set_cons_succ]
  refine wpAnyH_take (i := 19) (oi := ⟨some 29, _, _, _, _, _⟩) (v := ?hv16) rfl (by kernel_rfl) (by kernel_rfl) (by kernel_rfl) (fun _ _ _ h => h) (Or.inl ⟨by rfl, ?hyy16⟩) (by assumption) ?hrest16
  case hyy16 => intro w hSw; (try dsimp only at hSw); have hcb := HCELL.out _ (HQ_v3.out.trans (hSw.mono HQ_v3.out.size)); obtain ⟨hc0, hc1, hc2⟩ := hcb; go_simp <;> with_reducible rfl
  simp only [Act.put, List.setIfInBounds_toArray, List.set_cons_zero, List.set_cons_succ]
  refine wpAnyH_take (i := 20) (oi := ⟨some 30, _, _, _, _, _⟩) (v := ?hv17) rfl (by kernel_rfl) (by kernel_rfl) (by kernel_rfl) (fun _ _ _ h => h) (Or.inl ⟨by rfl, ?hyy17⟩) (by assumption) ?hrest17
  case hyy17 => intro w hSw; (try dsimp only at hSw); go_simp <;> with_reducible rfl
  simp only [Act.put, List.setIfInBounds_toArray, List.set_cons_zero, List.set_cons_succ]
  refine wpAnyH_take (i := 21) (oi := ⟨some 31, _, _, _, _, _⟩) (v := ?hv18) rfl (by kernel_rfl) (by kernel_rfl) (by kernel_rfl) (fun _ _ _ h => h) (Or.inl ⟨by rfl, ?hyy18⟩) (by assumption) ?hrest18
  case hyy18 => intro w hSw; (try dsimp only at hSw); go_simp <;> with_reducible rfl
  simp only [Act.put, List.setIfInBounds_toArray, List.set_cons_zero, List.set_cons_succ]
  refine wpAnyH_ready (rs := [18]) (by kernel_rfl) (by simp) ?_
  refine AllReadyH.cons rfl (fun K hK => ?_) AllReadyH.nil
  go_simp
  go_wp2_with fail
  refine (HQU.out _ (HQ_v3.out.trans (hHeld.mono HQ_v3.out.size))).mono ?_
  rintro e v4 ⟨rfl, hb_⟩
  have HP_v4 := hide_ (hHeld.trans (hb_.mono hHeld.size))
  have HQ_v4 := hide_ (HQ_v3.out.trans (HP_v4.out.mono HQ_v3.out.size))
  clear hb_
  refine hK.out _ _ (HP_v4.out) (fun hHeld => ?_)
  clear hK K hHeld
  refine wpAnyH_more (S' := fun u => Below v4.heap.size v4 u) (fun u hu => HP_v4.out.trans (hu.mono HP_v4.out.size)) _ _ _ _ ?_
  have hHeld := Below.refl v4.heap.size v4
  refine wpAnyH_ready (rs := [22]) (by kernel_rfl) (by simp) ?_
  refine AllReadyH.cons rfl (fun K hK => ?_) AllReadyH.nil
  go_simp
  go_wp2_with fail
  refine (HRQU.out _ (HQ_v4.out.trans (hHeld.mono HQ_v4.out.size))).mono ?_
  rintro e v5 ⟨rfl, hb_⟩
  have HP_v5 := hide_ (hHeld.trans (hb_.mono hHeld.size))
  have HQ_v5 := hide_ (HQ_v4.out.trans (HP_v5.out.mono HQ_v4.out.size))
  clear hb_
  refine hK.out _ _ (HP_v5.out) (fun hHeld => ?_)
  clear hK K hHeld
  refine wpAnyH_more (S' := fun u => Below v5.heap.size v5 u) (fun u hu => HP_v5.out.trans (hu.mono HP_v5.out.size)) _ _ _ _ ?_
  have hHeld := Below.refl v5.heap.size v5
  refine wpAnyH_take (i := 23) (oi := ⟨some 33, _, _, _, _, _⟩) (v := ?hv19) rfl (by kernel_rfl) (by kernel_rfl) (by kernel_rfl) (fun _ _ _ h => h) (Or.inl ⟨by rfl, ?hyy19⟩) (by assumption) ?hrest19
  case hyy19 => intro w hSw; (try dsimp only at hSw); go_simp <;> with_reducible rfl
  simp only [Act.put, List.setIfInBounds_toArray, List.set_cons_zero, List.set_cons_succ]
  refine wpAnyH_take (i := 24) (oi := ⟨some 34, _, _, _, _, _⟩) (v := ?hv20) rfl (by kernel_rfl) (by kernel_rfl) (by kernel_rfl) (fun _ _ _ h => h) (Or.inl ⟨by rfl, ?hyy20⟩) (by assumption) ?hrest20
  case hyy20 => intro w hSw; (try dsimp only at hSw); go_simp <;> with_reducible rfl
  simp only [Act.put, List.setIfInBounds_toArray, List.set_cons_zero, List.set_cons_succ]
  refine wpAnyH_take (i := 25) (oi := ⟨some 35, _, _, _, _, _⟩) (v := ?hv21) rfl (by kernel_rfl) (by kernel_rfl) (by kernel_rfl) (fun _ _ _ h => h) (Or.inl ⟨by rfl, ?hyy21⟩) (by assumption) ?hrest21
  case hyy21 => intro w hSw; (try dsimp only at hSw); go_simp <;> with_reducible rfl
  simp only [Act.put, List.setIfInBounds_toArray, List.set_cons_zero, List.set_cons_succ]
  refine wpAnyH_take (i := 26) (oi := ⟨some 36, _, _, _, _, _⟩) (v := ?hv22) rfl (by kernel_rfl) (by kernel_rfl) (by kernel_rfl) (fun _ _ _ h => h) (Or.inl ⟨by rfl, ?hyy22⟩) (by assumption) ?hrest22
  case hyy22 => intro w hSw; (try dsimp only at hSw); have hcb := HCELL.out _ (HQ_v5.out.trans (hSw.mono HQ_v5.out.size)); obtain ⟨hc0, hc1, hc2⟩ := hcb; go_simp <;> with_reducible rfl
  simp only [Act.put, List.setIfInBounds_toArray, List.set_cons_zero, List.set_cons_succ]
  refine wpAnyH_take (i := 27) (oi := ⟨some 37, _, _, _, _, _⟩) (v := ?hv23) rfl (by kernel_rfl) (by kernel_rfl) (by kernel_rfl) (fun _ _ _ h => h) (Or.inl ⟨by rfl, ?hyy23⟩) (by assumption) ?hrest23
  case hyy23 => intro w hSw; (try dsimp only at hSw); go_simp <;> with_reducible rfl
  simp only [Act.put, List.setIfInBounds_toArray, List.set_cons_zero, List.set_cons_succ]
  refine wpAnyH_take (i := 28) (oi := ⟨some 38, _, _, _, _, _⟩) (v := ?hv24) rfl (by kernel_rfl) (by kernel_rfl) (by kernel_rfl) (fun _ _ _ h => h) (Or.inl ⟨by rfl, ?hyy24⟩) (by assumption) ?hrest24
  case hyy24 => intro w hSw; (try dsimp only at hSw); go_simp <;> with_reducible rfl
  simp only [Act.put, List.setIfInBounds_toArray, List.set_cons_zero, List.set_cons_succ]
  refine wpAnyH_take (i := 30) (oi := ⟨some 40, _, _, _, _, _⟩) (v := ?hv25) rfl (by kernel_rfl) (by kernel_rfl) (by kernel_rfl) (fun _ _ _ h => h) (Or.inl ⟨by rfl, ?hyy25⟩) (by assumption) ?hrest25
  case hyy25 => intro w hSw; (try dsimp only at hSw); have hcb := HCELL.out _ (HQ_v5.out.trans (hSw.mono HQ_v5.out.size)); obtain ⟨hc0, hc1, hc2⟩ := hcb; go_simp <;> with_reducible rfl
  simp only [Act.put, List.setIfInBounds_toArray, List.set_cons_zero, List.set_cons_succ]
  refine wpAnyH_take (i := 31) (oi := ⟨some 41, _, _, _, _, _⟩) (v := ?hv26) rfl (by kernel_rfl) (by kernel_rfl) (by kernel_rfl) (fun _ _ _ h => h) (Or.inl ⟨by rfl, ?hyy26⟩) (by assumption) ?hrest26
  case hyy26 => intro w hSw; (try dsimp only at hSw); go_simp <;> with_reducible rfl
  simp only [Act.put, List.setIfInBounds_toArray, List.set_cons_zero, List.set_cons_succ]
  refine wpAnyH_take (i := 32) (oi := ⟨some 42, _, _, _, _, _⟩) (v := ?hv27) rfl (by kernel_rfl) (by kernel_rfl) (by kernel_rfl) (fun _ _ _ h => h) (Or.inl ⟨by rfl, ?hyy27⟩) (by assumption) ?hrest27
  case hyy27 => intro w hSw; (try dsimp only at hSw); go_simp <;> with_reducible rfl
  simp only [Act.put, List.setIfInBounds_toArray, List.set_cons_zero, List.set_cons_succ]
  refine wpAnyH_ready (rs := [29]) (by kernel_rfl) (by simp) ?_
  refine AllReadyH.cons rfl (fun K hK => ?_) AllReadyH.nil
  go_simp
  go_wp2_with fail
  refine (HAL.out _ (HQ_v5.out.trans (hHeld.mono HQ_v5.out.size))).mono ?_
  rintro e v6 ⟨rfl, hb_⟩
  have HP_v6 := hide_ (hHeld.trans (hb_.mono hHeld.size))
  have HQ_v6 := hide_ (HQ_v5.out.trans (HP_v6.out.mono HQ_v5.out.size))
  clear hb_
  refine hK.out _ _ (HP_v6.out) (fun hHeld => ?_)
  clear hK K hHeld
  refine wpAnyH_more (S' := fun u => Below v6.heap.size v6 u) (fun u hu => HP_v6.out.trans (hu.mono HP_v6.out.size)) _ _ _ _ ?_
  have hHeld := Below.refl v6.heap.size v6
  refine wpAnyH_ready (rs := [33]) (by kernel_rfl) (by simp) ?_
  refine AllReadyH.cons rfl (fun K hK => ?_) AllReadyH.nil
  go_simp
  go_wp2_with fail
  refine (HRAL.out _ (HQ_v6.out.trans (hHeld.mono HQ_v6.out.size))).mono ?_
  rintro e v7 ⟨rfl, hb_⟩
  have HP_v7 := hide_ (hHeld.trans (hb_.mono hHeld.size))
  have HQ_v7 := hide_ (HQ_v6.out.trans (HP_v7.out.mono HQ_v6.out.size))
  clear hb_
  refine hK.out _ _ (HP_v7.out) (fun hHeld => ?_)
  clear hK K hHeld
  refine wpAnyH_more (S' := fun u => Below v7.heap.size v7 u) (fun u hu => HP_v7.out.trans (hu.mono HP_v7.out.size)) _ _ _ _ ?_
  have hHeld := Below.refl v7.heap.size v7
  refine wpAnyH_take (i := 34) (oi := ⟨some 44, _, _, _, _, _⟩) (v := ?hv28) rfl (by kernel_rfl) (by kernel_rfl) (by kernel_rfl) (fun _ _ _ h => h) (Or.inl ⟨by rfl, ?hyy28⟩) (by assumption) ?hrest28
  case hyy28 => intro w hSw; (try dsimp only at hSw); go_simp <;> with_reducible rfl
  simp only [Act.put, List.setIfInBounds_toArray, List.set_cons_zero, List.set_cons_succ]
  refine wpAnyH_take (i := 35) (oi := ⟨some 45, _, _, _, _, _⟩) (v := ?hv29) rfl (by kernel_rfl) (by kernel_rfl) (by kernel_rfl) (fun _ _ _ h => h) (Or.inl ⟨by rfl, ?hyy29⟩) (by assumption) ?hrest29
  case hyy29 => intro w hSw; (try dsimp only at hSw); go_simp <;> with_reducible rfl
  simp only [Act.put, List.setIfInBounds_toArray, List.set_cons_zero, List.set_cons_succ]
  refine wpAnyH_take (i := 36) (oi := ⟨some 46, _, _, _, _, _⟩) (v := ?hv30) rfl (by kernel_rfl) (by kernel_rfl) (by kernel_rfl) (fun _ _ _ h => h) (Or.inl ⟨by rfl, ?hyy30⟩) (by assumption) ?hrest30
  case hyy30 => intro w hSw; (try dsimp only at hSw); go_simp <;> with_reducible rfl
  simp only [Act.put, List.setIfInBounds_toArray, List.set_cons_zero, List.set_cons_succ]
  refine wpAnyH_take (i := 37) (oi := ⟨some 47, _, _, _, _, _⟩) (v := ?hv31) rfl (by kernel_rfl) (by kernel_rfl) (by kernel_rfl) (fun _ _ _ h => h) (Or.inl ⟨by rfl, ?hyy31⟩) (by assumption) ?hrest31
  case hyy31 => intro w hSw; (try dsimp only at hSw); have hcb := HCELL.out _ (HQ_v7.out.trans (hSw.mono HQ_v7.out.size)); obtain ⟨hc0, hc1, hc2⟩ := hcb; go_simp <;> with_reducible rfl
  simp only [Act.put, List.setIfInBounds_toArray, List.set_cons_zero, List.set_cons_succ]
  refine wpAnyH_take (i := 38) (oi := ⟨some 48, _, _, _, _, _⟩) (v := ?hv32) rfl (by kernel_rfl) (by kernel_rfl) (by kernel_rfl) (fun _ _ _ h => h) (Or.inl ⟨by rfl, ?hyy32⟩) (by assumption) ?hrest32
  case hyy32 => intro w hSw; (try dsimp only at hSw); go_simp <;> with_reducible rfl
  simp only [Act.put, List.setIfInBounds_toArray, List.set_cons_zero, List.set_cons_succ]
  refine wpAnyH_take (i := 41) (oi := ⟨some 51, _, _, _, _, _⟩) (v := ?hv33) rfl (by kernel_rfl) (by kernel_rfl) (by kernel_rfl) (fun _ _ _ h => h) (Or.inl ⟨by rfl, ?hyy33⟩) (by assumption) ?hrest33
  case hyy33 => intro w hSw; (try dsimp only at hSw); have hcb := HCELL.out _ (HQ_v7.out.trans (hSw.mono HQ_v7.out.size)); obtain ⟨hc0, hc1, hc2⟩ := hcb; go_simp <;> with_reducible rfl
  simp only [Act.put, List.setIfInBounds_toArray, List.set_cons_zero, List.set_cons_succ]
  refine wpAnyH_take (i := 42) (oi := ⟨some 52, _, _, _, _, _⟩) (v := ?hv34) rfl (by kernel_rfl) (by kernel_rfl) (by kernel_rfl) (fun _ _ _ h => h) (Or.inl ⟨by rfl, ?hyy34⟩) (by assumption) ?hrest34
  case hyy34 => intro w hSw; (try dsimp only at hSw); go_simp <;> with_reducible rfl
  simp only [Act.put, List.setIfInBounds_toArray, List.set_cons_zero, List.set_cons_succ]
  refine wpAnyH_ready (rs := [39]) (by kernel_rfl) (by simp) ?_
  refine AllReadyH.cons rfl (fun K hK => ?_) AllReadyH.nil
  go_simp
  go_wp2_with fail
  refine (HKE.out _ (HQ_v7.out.trans (hHeld.mono HQ_v7.out.size))).mono ?_
  rintro e v8 ⟨A5, c5, rfl, ho_, hb_⟩
  have HP_v8 := hide_ (hHeld.trans (hb_.mono hHeld.size))
  have HQ_v8 := hide_ (HQ_v7.out.trans (HP_v8.out.mono HQ_v7.out.size))
  have HC_v8 := hide_ (fun (u : World) (hu : Below v8.heap.size v8 u) => run_str (P := Try.prog) u 23 9 5 Try.underlying23 Try.underlying5 Try.underlying9 _ v8.heap.size _ _ c5 rfl ((ho_).below hu))
  clear ho_
  clear hb_
  refine hK.out _ _ (HP_v8.out) (fun hHeld => ?_)
  clear hK K hHeld
  refine wpAnyH_more (S' := fun u => Below v8.heap.size v8 u) (fun u hu => HP_v8.out.trans (hu.mono HP_v8.out.size)) _ _ _ _ ?_
  have hHeld := Below.refl v8.heap.size v8
  refine wpAnyH_take (i := 40) (oi := ⟨some 50, _, _, _, _, _⟩) (v := ?hv35) rfl (by kernel_rfl) (by kernel_rfl) (by kernel_rfl) (fun _ _ _ h => h) (Or.inl ⟨by rfl, ?hyy35⟩) (by assumption) ?hrest35
  case hyy35 => intro w hSw; (try dsimp only at hSw); have hcv := HC_v8.out _ hSw; go_simp <;> with_reducible rfl
  simp only [Act.put, List.setIfInBounds_toArray, List.set_cons_zero, List.set_cons_succ]
  refine wpAnyH_ready (rs := [43]) (by kernel_rfl) (by simp) ?_
  refine AllReadyH.cons rfl (fun K hK => ?_) AllReadyH.nil
  go_simp
  go_wp2_with fail
  refine (HRKE.out _ (HQ_v8.out.trans (hHeld.mono HQ_v8.out.size))).mono ?_
  rintro e v9 ⟨A6, c6, rfl, ho_, hb_⟩
  have HP_v9 := hide_ (hHeld.trans (hb_.mono hHeld.size))
  have HQ_v9 := hide_ (HQ_v8.out.trans (HP_v9.out.mono HQ_v8.out.size))
  have HC_v9 := hide_ (fun (u : World) (hu : Below v9.heap.size v9 u) => run_str (P := Try.prog) u 23 9 5 Try.underlying23 Try.underlying5 Try.underlying9 _ v9.heap.size _ _ c6 rfl ((Sees.ownRow9 ho_).below hu))
  clear ho_
  clear hb_
  refine hK.out _ _ (HP_v9.out) (fun hHeld => ?_)
  clear hK K hHeld
  refine wpAnyH_more (S' := fun u => Below v9.heap.size v9 u) (fun u hu => HP_v9.out.trans (hu.mono HP_v9.out.size)) _ _ _ _ ?_
  have hHeld := Below.refl v9.heap.size v9
  refine wpAnyH_take (i := 44) (oi := ⟨some 54, _, _, _, _, _⟩) (v := ?hv36) rfl (by kernel_rfl) (by kernel_rfl) (by kernel_rfl) (fun _ _ _ h => h) (Or.inl ⟨by rfl, ?hyy36⟩) (by assumption) ?hrest36
  case hyy36 => intro w hSw; (try dsimp only at hSw); have hcv := HC_v9.out _ hSw; go_simp <;> with_reducible rfl
  simp only [Act.put, List.setIfInBounds_toArray, List.set_cons_zero, List.set_cons_succ]
  refine wpAnyH_take (i := 45) (oi := ⟨some 55, _, _, _, _, _⟩) (v := ?hv37) rfl (by kernel_rfl) (by kernel_rfl) (by kernel_rfl) (fun _ _ _ h => h) (Or.inl ⟨by rfl, ?hyy37⟩) (by assumption) ?hrest37
  case hyy37 => intro w hSw; (try dsimp only at hSw); go_simp <;> with_reducible rfl
  simp only [Act.put, List.setIfInBounds_toArray, List.set_cons_zero, List.set_cons_succ]
  refine wpAnyH_take (i := 46) (oi := ⟨some 56, _, _, _, _, _⟩) (v := ?hv38) rfl (by kernel_rfl) (by kernel_rfl) (by kernel_rfl) (fun _ _ _ h => h) (Or.inl ⟨by rfl, ?hyy38⟩) (by assumption) ?hrest38
  case hyy38 => intro w hSw; (try dsimp only at hSw); go_simp <;> with_reducible rfl
  simp only [Act.put, List.setIfInBounds_toArray, List.set_cons_zero, List.set_cons_succ]
  refine wpAnyH_take (i := 47) (oi := ⟨some 57, _, _, _, _, _⟩) (v := ?hv39) rfl (by kernel_rfl) (by kernel_rfl) (by kernel_rfl) (fun _ _ _ h => h) (Or.inl ⟨by rfl, ?hyy39⟩) (by assumption) ?hrest39
  case hyy39 => intro w hSw; (try dsimp only at hSw); go_simp <;> with_reducible rfl
  simp only [Act.put, List.setIfInBounds_toArray, List.set_cons_zero, List.set_cons_succ]
  refine wpAnyH_ready (rs := [48]) (by kernel_rfl) (by simp) ?_
  refine AllReadyH.cons rfl (fun K hK => ?_) AllReadyH.nil
  go_simp
  go_wp2_with fail
  refine (HAW.out _ (HQ_v9.out.trans (hHeld.mono HQ_v9.out.size))).mono ?_
  rintro e v10 ⟨rfl, hb_⟩
  have HP_v10 := hide_ (hHeld.trans (hb_.mono hHeld.size))
  have HQ_v10 := hide_ (HQ_v9.out.trans (HP_v10.out.mono HQ_v9.out.size))
  clear hb_
  refine hK.out _ _ (HP_v10.out) (fun hHeld => ?_)
  clear hK K hHeld
  refine wpAnyH_more (S' := fun u => Below v10.heap.size v10 u) (fun u hu => HP_v10.out.trans (hu.mono HP_v10.out.size)) _ _ _ _ ?_
  have hHeld := Below.refl v10.heap.size v10
  refine wpAnyH_take (i := 49) (oi := ⟨some 59, _, _, _, _, _⟩) (v := ?hv40) rfl (by kernel_rfl) (by kernel_rfl) (by kernel_rfl) (fun _ _ _ h => h) (Or.inl ⟨by rfl, ?hyy40⟩) (by assumption) ?hrest40
  case hyy40 => intro w hSw; (try dsimp only at hSw); go_simp <;> with_reducible rfl
  simp only [Act.put, List.setIfInBounds_toArray, List.set_cons_zero, List.set_cons_succ]
  refine wpAnyH_take (i := 50) (oi := ⟨some 6, _, _, _, _, _⟩) (v := ?hv41) rfl (by kernel_rfl) (by kernel_rfl) (by kernel_rfl) (fun _ _ _ h => h) (Or.inl ⟨by rfl, ?hyy41⟩) (by assumption) ?hrest41
  case hyy41 => intro w hSw; (try dsimp only at hSw); go_simp <;> with_reducible rfl
  simp only [Act.put, List.setIfInBounds_toArray, List.set_cons_zero, List.set_cons_succ]
  refine wpAnyH_done (by kernel_rfl) ?_ _
  go_wp2
  go_ret
  exact ⟨rfl, HWU.out _ HQ_v10.out⟩


theorem own : ownKnob Try.prog.godebug = none := by kernel_rfl
theorem laid : laidOutB Try.prog = true := by kernel_rfl

set_option maxRecDepth 100000 in
theorem contract (H : Type) (enc : TypeId × Value → H) (W : World) (base : Nat) (args : Array Value) (ds gs : List (DataW H)) (before : List MemPlace)
    (hval : ∀ (j : Nat) t v, Try.f3.params[j]? = some t → args[j]? = some v → Value.okWide Try.prog W .any base t v)
    (hW : DataW.Whole enc Try.prog Try.f3.params.toList Rows.confQuorumsSpec.vars false W args.toList ds gs before) :
    Calls Try.prog 3 args W fun e W' => ∃ v, e = .returned v ∧ Rows.confQuorumsSpec.post enc Try.prog Try.f3 false true false false W args v W' := by
  have hW' := hW
  obtain ⟨p, q, hA0, hV, rfl, hfz, hnd⟩ := hW
  have hA : DataW.TrodAll enc Try.prog W 0 (fun _ => true) true Try.f3.params.toList args.toList ds p := hA0
  rw [Try.params3] at hA hval
  obtain ⟨v0, vs0, d0, ds0, p0, q0, hargs, rfl, rfl, h0, r0⟩ := trodAll_cons hA
  obtain ⟨v1, vs1, d1, ds1, p1, q1, rfl, rfl, rfl, h1, r1⟩ := trodAll_cons r0
  obtain ⟨v2, vs2, d2, ds2, p2, q2, rfl, rfl, rfl, h2, r2⟩ := trodAll_cons r1
  obtain ⟨rfl, rfl, rfl⟩ := trodAll_nil r2
  obtain rfl : args = #[v0, v1, v2] := by cases args; simp_all
  obtain ⟨rfl, rfl⟩ := trodVars_none hV
  obtain ⟨C0, P0, pn0, pc0, pl0, Q0, qn0, qc0, ql0, rfl, bc0, ⟨pe0, pm0, ps0⟩, qe0, qm0, qs0⟩ := open_conf (hval 0 25 v0 rfl rfl) h0
  obtain ⟨a1, rfl, rfl, rfl, w1⟩ := open_int Try.underlying5 (hval 1 5 v1 rfl rfl) h1
  have b1 : 0 ≤ a1 ∧ a1 ≤ 255 := by simpa [Lit.wf, IntKind.min, IntKind.max, IntKind.signed, IntKind.bits] using w1
  obtain ⟨a2, rfl, rfl, rfl, w2⟩ := open_int Try.underlying22 (hval 2 22 v2 rfl rfl) h2
  have b2 : 0 ≤ a2 ∧ a2 ≤ 18446744073709551615 := by simpa [Lit.wf, IntKind.min, IntKind.max, IntKind.signed, IntKind.bits] using w2
  have fin : ∀ (e : Ending) (W' : World), e = .returned (.bool true) ∧ Below W.heap.size W W' → ∃ v, e = .returned v ∧ Rows.confQuorumsSpec.post enc Try.prog Try.f3 false true false false W #[.agg #[.int .u64 C0, .slice P0 pn0 pc0, .slice Q0 qn0 qc0], .int .u8 a1, .int .u64 a2] v W' :=
    fun e W' ⟨he, hb⟩ => ⟨_, he, law_post laid (by kernel_rfl) rfl rfl rfl Try.underlying4 hW' hb⟩
  obtain ⟨key, rfl⟩ : ∃ x : UInt8, a1 = (x.toNat : Int) := ⟨UInt8.ofNat a1.toNat, by rw [UInt8.toNat_ofNat']; omega⟩
  obtain ⟨a, rfl⟩ : ∃ x : Nat, a2 = (x : Int) := ⟨a2.toNat, by omega⟩
  cases hg : (decide (80 < pn0) || decide (80 < qn0)) with
  | true => exact (walk_long C0 P0 pn0 pc0 Q0 qn0 qc0 key a W hg pm0 qm0).mono fin
  | false =>
    simp at hg
    exact (walk_short C0 P0 pn0 pc0 pl0 Q0 qn0 qc0 ql0 key a W bc0 pe0 ps0 qe0 qs0 (by omega) (by omega) (by omega)).mono fin

set_option maxRecDepth 100000 in
theorem lifted (os : Os) (started : os.Started) (H : Type) (enc : TypeId × Value → H) :
    ReturnsInHanded {} Try.checked os 3 .any (Rows.confQuorumsSpec.pre6 enc Try.prog Try.f3 Rows.confQuorumsRow.domain false) (Rows.confQuorumsSpec.post enc Try.prog Try.f3 false true false false) := by
  refine returnsInHanded_of_change (C := Try.checked) (s := Rows.confQuorumsSpec) own started (by kernel_rfl) Try.func3
    (ChangeSpec.witness6 (enc := enc) (C := Try.checked) false ⟨#[], #[.agg #[.int .u64 0, .slice none 0 0, .slice none 0 0], .int .u8 0, .int .u64 0], []⟩ 8 (by kernel_rfl) (by kernel_rfl) (by kernel_rfl) (by kernel_rfl)) ?_
  intro W base args ds gs before hval hW _ _
  exact contract H enc W base args ds gs before hval hW

theorem proved : Rows.ConfQuorumsSaid :=
  OpenClaim.holds_of_wide 3 Try.f3 rfl rfl rfl rfl rfl rfl rfl ⟨rfl, rfl, rfl, rfl, rfl⟩ rfl rfl rfl rfl rfl (by kernel_rfl) Try.func3 (by kernel_rfl)
    (of_decide_eq_true (by kernel_rfl)) (by unfold Func.isWrapper; first | (rw [if_pos (by decide +kernel)]; kernel_rfl) | (rw [if_neg (by decide +kernel)]; exact ⟨rfl, rfl⟩))
    (fun os started H enc _ => lifted os started H enc)

end Go.Proofs.Ytlcgihdphdkhpaa.confQuorums
