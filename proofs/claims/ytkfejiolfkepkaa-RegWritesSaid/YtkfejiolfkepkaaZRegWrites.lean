/-
  scrutineerlaw06.RegWrites answers true for every input and leaves its input as it was; no condition.
-/
import Derived.Test.YtkfejiolfkepkaaJ48
import Derived.Test.YtkfejiolfkepkaaJ49
import Derived.Test.YtkfejiolfkepkaaLaw
namespace Go.Proofs.Ytkfejiolfkepkaa.regWrites
open Go.ChangeShapes Go.WideShapes Go.ChangeAt Go.RowKit

set_option maxRecDepth 100000 in
set_option maxHeartbeats 12800000 in
theorem walk (p : List UInt8) (bA : Option Addr) (k bc : Nat) (r : RegM) (w : World) (hk : p.length = k) (hkm : k ≤ 9223372036854775807) (hs : Sees w w.heap.size bA (bv p)) (hr : RegM.ok w w.heap.size r) :
    Calls Try.prog 3 #[.slice bA k bc, r.v] w fun e w' => e = .returned (.bool true) ∧ Below w.heap.size w w' := by
  have hw1 : Below w.heap.size w (w.alloc (.cells r.box 29)) := (Below.refl _ _).alloc (Nat.le_refl _) _
  have HW := hide_ hw1
  have HX := hide_ (BoxAt.new w r.box 29)
  have HSB := hide_ hs
  have HKK := hide_ hk
  have HG := hide_ (GreatG_any r w.heap.size _ (reg_stable.below hr hw1) hw1.size)
  have HM := hide_ (fun (u : World) (hb : Below w.heap.size w u) => refMay6_any r w.heap.size u (reg_stable.below hr hb) hb.size)
  have HM2 := hide_ (fun (u : World) (hb : Below w.heap.size w u) => mayReg_any r w.heap.size u (reg_stable.below hr hb) hb.size)
  have HP := hide_ (fun (u : World) (hb : Below w.heap.size w u) (h1 : k ≤ 1000) => putReg_any p k bc bA r w.heap.size u hk h1 (hs.below hb) (reg_stable.below hr hb) hb.size)
  have HBY := hide_ (fun (u : World) (hb : Below w.heap.size w u) (h : mayG r.p = true) => refBytes6_any r w.heap.size u (reg_stable.below hr hb) hb.size h)
  have HSA := hide_ (fun (u : World) (y : RegM) (hb : Below w.heap.size w u) (hy : RegM.ok u u.heap.size y) => refSameG_any y r u.heap.size u hy (reg_stable.more (reg_stable.below hr hb) hb.size) (Nat.le_refl _))
  have HLEN := hide_ (fun h : mayG r.p = true => regB_len hr h)
  have HGET := hide_ (fun (h : mayG r.p = true) => getS_put hr h)
  have HPY := hide_ (fun h : mayG r.p = true => putRG_yes (p := p) h)
  have HPN := hide_ (fun h : mayG r.p = false => putRG_no (p := p) h)
  obtain ⟨q, hq⟩ : ∃ q, mayG r.p = q := ⟨_, rfl⟩
  rw [hq] at HLEN HGET HPY HPN
  simp only [hq] at HM HM2 HBY
  obtain ⟨bs, hbs⟩ : ∃ bs, regB r.p = bs := ⟨_, rfl⟩
  rw [hbs] at HLEN HGET HPY
  simp only [hbs] at HBY
  obtain ⟨R, hR⟩ : ∃ R, putRG p r.p = R := ⟨_, rfl⟩
  simp only [hR] at HP
  rw [hR] at HPY HPN
  obtain ⟨rp, hrp⟩ : ∃ rp, r.p = rp := ⟨_, rfl⟩
  simp only [hrp] at HSA HGET
  clear hq hbs hR hr hw1 hs hk hrp
  obtain ⟨ki, inc, st, ⟨vA, vc, vl⟩, ⟨dA, dc, dl⟩, ⟨oA, oc, ol⟩, la, ⟨mA, mc, ml⟩⟩ := r
  simp only [RegM.v, RegM.box, Sl.v] at HW HX HG HM HM2 HP HBY HSA ⊢
  by_cases hk2 : k ≤ 200
  case neg =>
    have d1 : decide ((200 : Int) < k) = true := decide_eq_true (by omega)
    clear hk2
    go_enter Try.func3, Try.ntmps3
    go_wp2_with fail
    refine (awake06_any _).mono ?_
    rintro en w2 ⟨rfl, hb2⟩
    go_wp2
    go_ret
    exact ⟨rfl, HW.out.trans (hb2.mono HW.out.size)⟩
  have d1 : decide ((200 : Int) < k) = false := decide_eq_false (by omega)
  go_enter Try.func3, Try.ntmps3
  go_wp2_with fail
  refine HG.out.mono ?_
  rintro en w1 ⟨b, rfl, hb, -⟩
  have HB1 := hide_ (HW.out.trans (hb.mono (by simp)))
  have HX1 := hide_ (HX.out.below hb)
  clear hb HG HX
  have hz1 : w.heap.size < w1.heap.size := HX1.out.lt
  have hcx := HX1.out.cell
  cases b with
  | true =>
    go_wp2_with fail
    refine (awake06_any _).mono ?_
    rintro en w2 ⟨rfl, hb2⟩
    go_wp2
    go_ret
    exact ⟨rfl, HB1.out.trans (hb2.mono HB1.out.size)⟩
  | false =>
  obtain ⟨rb, re⟩ := R
  obtain ⟨n, hn⟩ : ∃ n, rb.length = n := ⟨_, rfl⟩
  have HN := hide_ hn
  clear hn
  go_wp2_with fail
  refine (HP.out _ HB1.out (by omega)).mono ?_
  rintro en w2 ⟨A1, c1, rfl, ho1, hb2⟩
  simp only [HN.out] at ho1 ⊢
  have HO1 := hide_ ho1
  have HB2 := hide_ (HB1.out.trans (hb2.mono HB1.out.size))
  have HX2 := hide_ (HX1.out.below hb2)
  clear ho1 hb2 hcx HP
  have hz2 : w.heap.size < w2.heap.size := HX2.out.lt
  have hcx := HX2.out.cell
  go_wp2_with fail
  refine (HM.out _ HB2.out).mono ?_
  rintro en w3 ⟨rfl, hb3⟩
  have HB3 := hide_ (HB2.out.trans (hb3.mono HB2.out.size))
  have HX3 := hide_ (HX2.out.below hb3)
  have HO3 := hide_ (own_below HO1.out hb3)
  clear hb3 hcx HM
  have hz3 : w.heap.size < w3.heap.size := HX3.out.lt
  have hcx := HX3.out.cell
  cases q with
  | false =>
    have hR := HPN.out rfl
    injection hR with hR1 hR2
    subst hR1 hR2
    obtain rfl : n = 0 := by have := HN.out; simpa using this.symm
    go_wp2_with fail
    refine (HM2.out _ HB3.out).mono ?_
    rintro en w4 ⟨rfl, hb4⟩
    have HB4 := hide_ (HB3.out.trans (hb4.mono HB3.out.size))
    clear hb4
    go_wp2_with fail
    refine (awake06_any _).mono ?_
    rintro en w5 ⟨rfl, hb5⟩
    go_wp2
    go_ret
    exact ⟨rfl, HB4.out.trans (hb5.mono HB4.out.size)⟩
  | true =>
  have hR := HPY.out rfl
  injection hR with hR1 hR2
  subst hR2
  have HR1 := hide_ hR1
  have HLN := hide_ (HLEN.out rfl)
  have HGT := hide_ (HGET.out rfl)
  clear HPY HPN HLEN HGET hR1
  obtain ⟨m, hm⟩ : ∃ m, bs.length = m := ⟨_, rfl⟩
  have HMM := hide_ hm
  rw [hm] at HLN
  clear hm
  go_wp2_with fail
  refine (HBY.out _ HB3.out (by trivial)).mono ?_
  rintro en w4 ⟨A4, c4, rfl, ho4, hb4⟩
  simp only [HMM.out] at ho4 ⊢
  have HO4 := hide_ ho4
  have HB4 := hide_ (HB3.out.trans (hb4.mono HB3.out.size))
  have HX4 := hide_ (HX3.out.below hb4)
  have HOX := hide_ (own_below HO3.out hb4)
  clear ho4 hb4 hcx HBY HO3 HO1
  go_wp2_with fail
  refine (New_any bs w4.heap.size A4 m c4 w4 HMM.out (Sees.own HO4.out) (Nat.le_refl _) (by have := HLN.out.2; omega)).mono ?_
  rintro en w5 ⟨g, rfl, hg, hr5, hb5⟩
  have HB5 := hide_ (HB4.out.trans (hb5.mono HB4.out.size))
  have HX5 := hide_ (HX4.out.below hb5)
  have HSX5 := hide_ ((Sees.own HOX.out).below hb5)
  have HSO5 := hide_ ((Sees.own HO4.out).below hb5)
  have HGR := hide_ (GetReg_any (s := (bs, 0)) hr5 ⟨.inl rfl, by show bs.length ≤ _; rw [HMM.out]; have := HLN.out.2; omega⟩)
  rw [HGT.out] at HGR
  have hgb : w4.heap.size ≤ g := hg
  have HB45 := hide_ hb5.size
  clear hr5 hb5 hg HOX HO4
  go_wp2_with fail
  refine HGR.out.mono ?_
  rintro en w6 ⟨y, rfl, hp, ho, hl, hr6, hg6⟩
  have HPX := hide_ hp
  have hw4 : w.heap.size ≤ w4.heap.size := HB4.out.size
  have hx4 : w.heap.size < w4.heap.size := HX4.out.lt
  have hb5s := HB45.out
  have HB6 := hide_ (HB5.out.grown hg6 HB5.out.size fun j hj => by injection hj with hj; omega)
  have HX6 := hide_ (show BoxAt w6 w.heap.size _ _ from box_far hg6 HX5.out (by omega))
  have HFAR := hide_ (fun (A : Option Addr) (xs : List Value) (h : Sees w5 w4.heap.size A xs) => (h.keep fun z hz => World.cell?_of_block (hg6.block z.block (by have := hb5s; omega) fun e => by injection e with e; omega) : Sees w6 w4.heap.size A xs))
  have HSX6 := hide_ (HFAR.out _ _ HSX5.out)
  have HSO6 := hide_ (HFAR.out _ _ HSO5.out)
  have HOY := hide_ ho
  have HR6 := hide_ hr6
  have h46 : w4.heap.size ≤ w6.heap.size := by have := hg6.size; omega
  clear hp ho hl hr6 hg6 HGR HSX5 HSO5 HFAR
  have HR7 := hide_ (HR6.out.made (.cells y.box 29))
  have HB7 := hide_ (HB6.out.alloc HB6.out.size (.cells y.box 29))
  have HX7 := hide_ (HX6.out.alloc (.cells y.box 29))
  have HY7 := hide_ (BoxAt.new w6 y.box 29)
  have HSX7 := hide_ (HSX6.out.below ((Below.refl _ _).alloc h46 (.cells y.box 29)))
  have HSO7 := hide_ (HSO6.out.below ((Below.refl _ _).alloc h46 (.cells y.box 29)))
  have HOY7 := hide_ (reg_local.below HOY.out ((Below.refl _ _).alloc (Nat.le_refl _) (.cells y.box 29)))
  have HYS := hide_ (fun (u : World) (hb : Below w6.heap.size (w6.alloc (.cells y.box 29)) u) (hb2 : Below (w6.alloc (.cells y.box 29)).heap.size (w6.alloc (.cells y.box 29)) u) => HSA.out u y (HB7.out.trans (hb2.mono HB7.out.size)) (reg_local.below HOY7.out hb2))
  rw [show decide (y.p = rp) = true by rw [HPX.out]; simp] at HYS
  clear HPX HOY HSA HOY7 HSX6 HSO6 HX6 HR6
  obtain ⟨ki2, inc2, st2, ⟨vA2, vc2, vl2⟩, ⟨dA2, dc2, dl2⟩, ⟨oA2, oc2, ol2⟩, la2, ⟨mA2, mc2, ml2⟩⟩ := y
  simp only [RegM.v, RegM.box, Sl.v] at HR7 HB7 HX7 HY7 HSX7 HSO7 HYS ⊢
  obtain ⟨W7, hW7⟩ : ∃ W7, w6.alloc (.cells #[.int .u8 ki2, .int .u64 inc2, .int .i64 st2, .slice vA2 vl2.length vc2, .slice dA2 dl2.length dc2, .slice oA2 ol2.length oc2, .int .u64 la2, .slice mA2 ml2.length mc2] 29) = W7 := ⟨_, rfl⟩
  rw [hW7] at HR7 HB7 HX7 HY7 HSX7 HSO7 HYS
  have HZ7 := hide_ (show W7.heap.size = w6.heap.size + 1 by rw [← hW7]; simp)
  have HW7 := hide_ hW7
  clear hW7
  have HB0 := hide_ (show Below W7.heap.size W7 W7.drew from (Below.refl _ _).drew)
  have HBB := hide_ (fun (u : World) (hb : Below W7.heap.size W7 u) => show Below w.heap.size w u from HB7.out.trans (hb.mono HB7.out.size))
  have HSXU := hide_ (fun (u : World) (hb : Below W7.heap.size W7 u) => (HSX7.out.below (hb.mono (by have := HZ7.out; omega)) : Sees u w4.heap.size A1 (bv rb)))
  have HSOU := hide_ (fun (u : World) (hb : Below W7.heap.size W7 u) => (HSO7.out.below (hb.mono (by have := HZ7.out; omega)) : Sees u w4.heap.size A4 (bv bs)))
  have HSBU := hide_ (fun (u : World) (hb : Below W7.heap.size W7 u) => (HSB.out.below (HBB.out u hb) : Sees u w.heap.size bA (bv p)))
  have HSS := hide_ (fun (w' : World) (hb : Below W7.heap.size W7 w') => show (∀ i : Nat, w'.cell? ⟨w.heap.size, i, none⟩ = (#[.int .u8 ki, .int .u64 inc, .int .i64 st, .slice vA vl.length vc, .slice dA dl.length dc, .slice oA ol.length oc, .int .u64 la, .slice mA ml.length mc] : Array Value)[i]?) ∧ (∀ i : Nat, w'.cell? ⟨w6.heap.size, i, none⟩ = (#[.int .u8 ki2, .int .u64 inc2, .int .i64 st2, .slice vA2 vl2.length vc2, .slice dA2 dl2.length dc2, .slice oA2 ol2.length oc2, .int .u64 la2, .slice mA2 ml2.length mc2] : Array Value)[i]?) ∧ (convert 22 9 (.slice A1 n c1)).run Try.prog w' = .ok (.string (strOf rb)) w' from ⟨(HX7.out.below hb).cell, (HY7.out.below hb).cell, run_str (P := Try.prog) w' 22 9 5 Try.underlying22 Try.underlying5 Try.underlying9 rb _ A1 n c1 HN.out (HSXU.out w' hb)⟩)
  go_upto_region 9 with fail
  rw [HW7.out]
  try clear hcx

  refine wp_region_held_drew (S := fun w' => (∀ i : Nat, w'.cell? ⟨w.heap.size, i, none⟩ = (#[.int .u8 ki, .int .u64 inc, .int .i64 st, .slice vA vl.length vc, .slice dA dl.length dc, .slice oA ol.length oc, .int .u64 la, .slice mA ml.length mc] : Array Value)[i]?) ∧ (∀ i : Nat, w'.cell? ⟨w6.heap.size, i, none⟩ = (#[.int .u8 ki2, .int .u64 inc2, .int .i64 st2, .slice vA2 vl2.length vc2, .slice dA2 dl2.length dc2, .slice oA2 ol2.length oc2, .int .u64 la2, .slice mA2 ml2.length mc2] : Array Value)[i]?) ∧ (convert 22 9 (.slice A1 n c1)).run Try.prog w' = .ok (.string (strOf rb)) w') (by kernel_rfl) (HSS.out _ HB0.out) (fun hHeld => ?_)
  refine wpAnyH_take (i := 0) (oi := ⟨some 48, _, _, _, _, _⟩) (v := ?v1) rfl (by kernel_rfl) (by kernel_rfl) (by kernel_rfl) (fun _ _ _ h => h) (Or.inl ⟨by rfl, ?hy1⟩) (by assumption) ?rest1
  case hy1 => intro w hSw; (try dsimp only at hSw); go_simp <;> with_reducible rfl
  simp only [Act.put, List.setIfInBounds_toArray, List.set_cons_zero, List.set_cons_succ]
  refine wpAnyH_ready (rs := [1]) (by kernel_rfl) (by simp) ?_
  refine AllReadyH.cons rfl (fun K hK => ?_) AllReadyH.nil
  go_simp
  go_wp2_with fail
  refine (HM2.out _ (HBB.out _ HB0.out)).mono ?_
  rintro en w8 ⟨rfl, hb8⟩
  have HB8 := hide_ (HB0.out.trans (hb8.mono HB0.out.size))
  clear hb8
  refine hK.out _ _ (HSS.out _ HB8.out) (fun hHeld => ?_)
  clear hK K
  refine wpAnyH_take (i := 2) (oi := ⟨some 50, _, _, _, _, _⟩) (v := ?v2) rfl (by kernel_rfl) (by kernel_rfl) (by kernel_rfl) (fun _ _ _ h => h) (Or.inl ⟨by rfl, ?hy2⟩) (by assumption) ?rest2
  case hy2 => intro w hSw; (try dsimp only at hSw); go_simp <;> with_reducible rfl
  simp only [Act.put, List.setIfInBounds_toArray, List.set_cons_zero, List.set_cons_succ]
  refine wpAnyH_take (i := 3) (oi := ⟨some 51, _, _, _, _, _⟩) (v := ?v3) rfl (by kernel_rfl) (by kernel_rfl) (by kernel_rfl) (fun _ _ _ h => h) (Or.inl ⟨by rfl, ?hy3⟩) (by assumption) ?rest3
  case hy3 => intro w hSw; (try dsimp only at hSw); go_simp <;> with_reducible rfl
  simp only [Act.put, List.setIfInBounds_toArray, List.set_cons_zero, List.set_cons_succ]
  refine wpAnyH_take (i := 4) (oi := ⟨some 52, _, _, _, _, _⟩) (v := ?v4) rfl (by kernel_rfl) (by kernel_rfl) (by kernel_rfl) (fun _ _ _ h => h) (Or.inl ⟨by rfl, ?hy4⟩) (by assumption) ?rest4
  case hy4 => intro w hSw; (try dsimp only at hSw); go_simp <;> with_reducible rfl
  simp only [Act.put, List.setIfInBounds_toArray, List.set_cons_zero, List.set_cons_succ]
  refine wpAnyH_take (i := 5) (oi := ⟨some 53, _, _, _, _, _⟩) (v := ?v5) rfl (by kernel_rfl) (by kernel_rfl) (by kernel_rfl) (fun _ _ _ h => h) (Or.inl ⟨by rfl, ?hy5⟩) (by assumption) ?rest5
  case hy5 => intro w hSw; (try dsimp only at hSw); go_simp <;> with_reducible rfl
  simp only [Act.put, List.setIfInBounds_toArray, List.set_cons_zero, List.set_cons_succ]
  refine wpAnyH_take (i := 6) (oi := ⟨some 54, _, _, _, _, _⟩) (v := ?v6) rfl (by kernel_rfl) (by kernel_rfl) (by kernel_rfl) (fun _ _ _ h => h) (Or.inl ⟨by rfl, ?hy6⟩) (by assumption) ?rest6
  case hy6 => intro w hSw; (try dsimp only at hSw); go_simp <;> with_reducible rfl
  simp only [Act.put, List.setIfInBounds_toArray, List.set_cons_zero, List.set_cons_succ]
  refine wpAnyH_take (i := 7) (oi := ⟨some 55, _, _, _, _, _⟩) (v := ?v7) rfl (by kernel_rfl) (by kernel_rfl) (by kernel_rfl) (fun _ _ _ h => h) (Or.inl ⟨by rfl, ?hy7⟩) (by assumption) ?rest7
  case hy7 => intro w hSw; (try dsimp only at hSw); go_simp <;> with_reducible rfl
  simp only [Act.put, List.setIfInBounds_toArray, List.set_cons_zero, List.set_cons_succ]
  refine wpAnyH_take (i := 8) (oi := ⟨some 56, _, _, _, _, _⟩) (v := ?v8) rfl (by kernel_rfl) (by kernel_rfl) (by kernel_rfl) (fun _ _ _ h => h) (Or.inl ⟨by rfl, ?hy8⟩) (by assumption) ?rest8
  case hy8 => intro w hSw; (try dsimp only at hSw); go_simp <;> with_reducible rfl
  simp only [Act.put, List.setIfInBounds_toArray, List.set_cons_zero, List.set_cons_succ]
  refine wpAnyH_take (i := 10) (oi := ⟨some 58, _, _, _, _, _⟩) (v := ?v9) rfl (by kernel_rfl) (by kernel_rfl) (by kernel_rfl) (fun _ _ _ h => h) (Or.inl ⟨by rfl, ?hy9⟩) (by assumption) ?rest9
  case hy9 => intro w hSw; (try dsimp only at hSw); go_simp <;> with_reducible rfl
  simp only [Act.put, List.setIfInBounds_toArray, List.set_cons_zero, List.set_cons_succ]
  refine wpAnyH_take (i := 12) (oi := ⟨some 60, _, _, _, _, _⟩) (v := ?v10) rfl (by kernel_rfl) (by kernel_rfl) (by kernel_rfl) (fun _ _ _ h => h) (Or.inl ⟨by rfl, ?hy10⟩) (by assumption) ?rest10
  case hy10 => intro w hSw; (try dsimp only at hSw); go_simp <;> with_reducible rfl
  simp only [Act.put, List.setIfInBounds_toArray, List.set_cons_zero, List.set_cons_succ]
  refine wpAnyH_ready (rs := [9]) (by kernel_rfl) (by simp) ?_
  refine AllReadyH.cons rfl (fun K hK => ?_) AllReadyH.nil
  go_simp
  have HB9 := hide_ (HB8.out.alloc HB8.out.size (.cells #[] 5))
  have HOE := hide_ (show (w8.alloc (.cells #[] 5)).ownsRow w8.heap.size 5 1 (.slice (some ⟨w8.heap.size, 0, none⟩) 0 0) ([] : List UInt8).length (bv []) by
    have h := World.ownsRow_lit (base := w8.heap.size) (e := 5) (size := 1) w8 #[] 0 (Nat.le_refl _) (by simp [maxLen]) (by simp)
    simpa [bv] using h)
  refine hK.out _ _ (HSS.out _ HB9.out) (fun hHeld => ?_)
  clear hK K
  refine wpAnyH_ready (rs := [11]) (by kernel_rfl) (by simp) ?_
  refine AllReadyH.cons rfl (fun K hK => ?_) AllReadyH.nil
  refine step_append_row _ (by rfl) _ _ 22 (by rfl) w8.heap.size u8_info Try.underlying22 _ [] p p (by simp) (by rfl) HOE.out w.heap.size bA k bc (by rfl) HKK.out (HSBU.out _ HB9.out) ⟨by simp, by omega⟩ (by simp) ?_
  intro A10 c10 w10 hst
  have HB10 := hide_ (HB9.out.trans (hst.below HOE.out (B := W7.heap.size) (by have := HB8.out.size; omega) (by have := HB9.out.size; omega)))
  have HO10 := hide_ hst.own
  have h810 : w8.heap.size ≤ w10.heap.size := by have h := hst.grow.size; simp at h; omega
  clear hst
  refine hK.out _ _ (HSS.out _ HB10.out) (fun hHeld => ?_)
  clear hK K
  simp only [Act.put, List.setIfInBounds_toArray]
  refine wpAnyH_ready (rs := [13]) (by kernel_rfl) (by simp) ?_
  refine AllReadyH.cons rfl (fun K hK => ?_) AllReadyH.nil
  refine step_append_row _ (by rfl) _ _ 22 (by rfl) w8.heap.size u8_info Try.underlying22 _ p bs rb HR1.out.symm (by rfl) HO10.out w4.heap.size A4 m c4 (by rfl) HMM.out (HSOU.out _ HB10.out) ⟨by have := HKK.out; omega, by have := HLN.out.2; omega⟩ h810 ?_
  intro A11 c11 w11 hst
  have HB11 := hide_ (HB10.out.trans (hst.below HO10.out (B := W7.heap.size) (by have := HB8.out.size; omega) (by have := HB10.out.size; omega)))
  have HO11 := hide_ hst.own
  clear hst
  refine hK.out _ _ (HSS.out _ HB11.out) (fun hHeld => ?_)
  clear hK K
  simp only [Act.put]
  refine wpAnyH_ready (rs := [14]) (by kernel_rfl) (by simp) ?_
  refine AllReadyH.cons rfl (fun K hK => ?_) AllReadyH.nil
  go_simp
  rw [run_str (P := Try.prog) w11 22 9 5 Try.underlying22 Try.underlying5 Try.underlying9 rb _ A11 rb.length c11 rfl (Sees.own HO11.out)]
  go_simp
  refine hK.out _ _ (HSS.out _ HB11.out) (fun hHeld => ?_)
  clear hK K
  refine wpAnyH_take (i := 15) (oi := ⟨some 63, _, _, _, _, _⟩) (v := ?v11) rfl (by kernel_rfl) (by kernel_rfl) (by kernel_rfl) (fun _ _ _ h => h) (Or.inl ⟨by rfl, ?hy11⟩) (by assumption) ?rest11
  case hy11 => intro w hSw; (try dsimp only at hSw); go_simp <;> with_reducible rfl
  simp only [Act.put, List.setIfInBounds_toArray, List.set_cons_zero, List.set_cons_succ]
  refine wpAnyH_take (i := 16) (oi := ⟨some 64, _, _, _, _, _⟩) (v := ?v12) rfl (by kernel_rfl) (by kernel_rfl) (by kernel_rfl) (fun _ _ _ h => h) (Or.inl ⟨by rfl, ?hy12⟩) (by assumption) ?rest12
  case hy12 => intro w hSw; (try dsimp only at hSw); go_simp <;> with_reducible rfl
  simp only [Act.put, List.setIfInBounds_toArray, List.set_cons_zero, List.set_cons_succ]
  refine wpAnyH_take (i := 17) (oi := ⟨some 65, _, _, _, _, _⟩) (v := ?v13) rfl (by kernel_rfl) (by kernel_rfl) (by kernel_rfl) (fun _ _ _ h => h) (Or.inl ⟨by rfl, ?hy13⟩) (by assumption) ?rest13
  case hy13 => intro w hSw; (try dsimp only at hSw); go_simp <;> with_reducible rfl
  simp only [Act.put, List.setIfInBounds_toArray, List.set_cons_zero, List.set_cons_succ]
  refine wpAnyH_take (i := 18) (oi := ⟨some 66, _, _, _, _, _⟩) (v := ?v14) rfl (by kernel_rfl) (by kernel_rfl) (by kernel_rfl) (fun _ _ _ h => h) (Or.inl ⟨by rfl, ?hy14⟩) (by assumption) ?rest14
  case hy14 => intro w hSw; (try dsimp only at hSw); go_simp <;> with_reducible rfl
  simp only [Act.put, List.setIfInBounds_toArray, List.set_cons_zero, List.set_cons_succ]
  refine wpAnyH_take (i := 19) (oi := ⟨some 67, _, _, _, _, _⟩) (v := ?v15) rfl (by kernel_rfl) (by kernel_rfl) (by kernel_rfl) (fun _ _ _ h => h) (Or.inl ⟨by rfl, ?hy15⟩) (by assumption) ?rest15
  case hy15 => intro w hSw; (try dsimp only at hSw); go_simp <;> with_reducible rfl
  simp only [Act.put, List.setIfInBounds_toArray, List.set_cons_zero, List.set_cons_succ]
  refine wpAnyH_ready (rs := [20]) (by kernel_rfl) (by simp) ?_
  refine AllReadyH.cons rfl (fun K hK => ?_) AllReadyH.nil
  go_simp
  go_wp2_with fail
  refine (HYS.out _ (HB11.out.mono (by have := HZ7.out; omega)) HB11.out).mono ?_
  rintro en w12 ⟨rfl, hb12⟩
  have HB12 := hide_ (HB11.out.trans (hb12.mono HB11.out.size))
  have HR12 := hide_ (HR7.out.below HB12.out)
  clear hb12
  refine hK.out _ _ (HSS.out _ HB12.out) (fun hHeld => ?_)
  clear hK K
  refine wpAnyH_take (i := 21) (oi := ⟨some 69, _, _, _, _, _⟩) (v := ?v16) rfl (by kernel_rfl) (by kernel_rfl) (by kernel_rfl) (fun _ _ _ h => h) (Or.inl ⟨by rfl, ?hy16⟩) (by assumption) ?rest16
  case hy16 => intro w hSw; (try dsimp only at hSw); go_simp <;> with_reducible rfl
  simp only [Act.put, List.setIfInBounds_toArray, List.set_cons_zero, List.set_cons_succ]
  refine wpAnyH_take (i := 22) (oi := ⟨some 70, _, _, _, _, _⟩) (v := ?v17) rfl (by kernel_rfl) (by kernel_rfl) (by kernel_rfl) (fun _ _ _ h => h) (Or.inl ⟨by rfl, ?hy17⟩) (by assumption) ?rest17
  case hy17 => intro w hSw; (try dsimp only at hSw); go_simp <;> with_reducible rfl
  simp only [Act.put, List.setIfInBounds_toArray, List.set_cons_zero, List.set_cons_succ]
  refine wpAnyH_take (i := 23) (oi := ⟨some 71, _, _, _, _, _⟩) (v := ?v18) rfl (by kernel_rfl) (by kernel_rfl) (by kernel_rfl) (fun _ _ _ h => h) (Or.inl ⟨by rfl, ?hy18⟩) (by assumption) ?rest18
  case hy18 => intro w hSw; (try dsimp only at hSw); go_simp <;> with_reducible rfl
  simp only [Act.put, List.setIfInBounds_toArray, List.set_cons_zero, List.set_cons_succ]
  refine wpAnyH_ready (rs := [24]) (by kernel_rfl) (by simp) ?_
  refine AllReadyH.cons rfl (fun K hK => ?_) AllReadyH.nil
  go_simp
  go_wp2_with fail
  refine (End_st (s := ([], 0)) HR12.out).mono ?_
  rintro en w13 ⟨rfl, rfl⟩
  rw [show endS ([], 0) = 0 from rfl]
  refine hK.out _ _ (HSS.out _ HB12.out) (fun hHeld => ?_)
  clear hK K
  refine wpAnyH_take (i := 25) (oi := ⟨some 73, _, _, _, _, _⟩) (v := ?v19) rfl (by kernel_rfl) (by kernel_rfl) (by kernel_rfl) (fun _ _ _ h => h) (Or.inl ⟨by rfl, ?hy19⟩) (by assumption) ?rest19
  case hy19 => intro w hSw; (try dsimp only at hSw); go_simp <;> with_reducible rfl
  simp only [Act.put, List.setIfInBounds_toArray, List.set_cons_zero, List.set_cons_succ]
  refine wpAnyH_take (i := 26) (oi := ⟨some 74, _, _, _, _, _⟩) (v := ?v20) rfl (by kernel_rfl) (by kernel_rfl) (by kernel_rfl) (fun _ _ _ h => h) (Or.inl ⟨by rfl, ?hy20⟩) (by assumption) ?rest20
  case hy20 => intro w hSw; (try dsimp only at hSw); go_simp <;> with_reducible rfl
  simp only [Act.put, List.setIfInBounds_toArray, List.set_cons_zero, List.set_cons_succ]
  refine wpAnyH_take (i := 27) (oi := ⟨some 75, _, _, _, _, _⟩) (v := ?v21) rfl (by kernel_rfl) (by kernel_rfl) (by kernel_rfl) (fun _ _ _ h => h) (Or.inl ⟨by rfl, ?hy21⟩) (by assumption) ?rest21
  case hy21 => intro w hSw; (try dsimp only at hSw); go_simp <;> with_reducible rfl
  simp only [Act.put, List.setIfInBounds_toArray, List.set_cons_zero, List.set_cons_succ]
  refine wpAnyH_ready (rs := [28]) (by kernel_rfl) (by simp) ?_
  refine AllReadyH.cons rfl (fun K hK => ?_) AllReadyH.nil
  go_simp
  go_wp2_with fail
  refine (awake06_any _).mono ?_
  rintro en w14 ⟨rfl, hb14⟩
  have HB14 := hide_ (HB12.out.trans (hb14.mono HB12.out.size))
  clear hb14
  refine hK.out _ _ (HSS.out _ HB14.out) (fun hHeld => ?_)
  clear hK K
  refine wpAnyH_take (i := 29) (oi := ⟨some 77, _, _, _, _, _⟩) (v := ?v22) rfl (by kernel_rfl) (by kernel_rfl) (by kernel_rfl) (fun _ _ _ h => h) (Or.inl ⟨by rfl, ?hy22⟩) (by assumption) ?rest22
  case hy22 => intro w hSw; (try dsimp only at hSw); go_simp <;> with_reducible rfl
  simp only [Act.put, List.setIfInBounds_toArray, List.set_cons_zero, List.set_cons_succ]
  refine wpAnyH_take (i := 30) (oi := ⟨some 4, _, _, _, _, _⟩) (v := ?v23) rfl (by kernel_rfl) (by kernel_rfl) (by kernel_rfl) (fun _ _ _ h => h) (Or.inl ⟨by rfl, ?hy23⟩) (by assumption) ?rest23
  case hy23 => intro w hSw; (try dsimp only at hSw); go_simp <;> with_reducible rfl
  simp only [Act.put, List.setIfInBounds_toArray, List.set_cons_zero, List.set_cons_succ]
  refine wpAnyH_done (by kernel_rfl) ?_ _
  go_wp2_with fail
  go_ret
  exact ⟨rfl, HBB.out _ HB14.out⟩
theorem own : ownKnob Try.prog.godebug = none := by kernel_rfl
theorem laid : laidOutB Try.prog = true := by kernel_rfl
theorem cells8 : Try.prog.cellsOf 5 = 1 := by kernel_rfl

set_option maxRecDepth 100000 in
theorem contract (H : Type) (enc : TypeId × Value → H) (W : World) (base : Nat) (args : Array Value) (ds gs : List (DataW H)) (before : List MemPlace)
    (hval : ∀ (j : Nat) t v, Try.f3.params[j]? = some t → args[j]? = some v → Value.okWide Try.prog W .any base t v)
    (hW : DataW.Whole enc Try.prog Try.f3.params.toList Rows.regWritesSpec.vars false W args.toList ds gs before) :
    Calls Try.prog 3 args W fun e W' => ∃ v, e = .returned v ∧ Rows.regWritesSpec.post enc Try.prog Try.f3 false true false false W args v W' := by
  have hW' := hW
  obtain ⟨p, q, hA0, hV, rfl, hfz, hnd⟩ := hW
  have hA : DataW.TrodAll enc Try.prog W 0 (fun _ => true) true Try.f3.params.toList args.toList ds p := hA0
  rw [Try.params3] at hA hval
  obtain ⟨v0, vs0, d0, ds0, p0, q0, hargs, rfl, rfl, h0, r0⟩ := trodAll_cons hA
  obtain ⟨v1, vs1, d1, ds1, p1, q1, rfl, rfl, rfl, h1, r1⟩ := trodAll_cons r0
  obtain ⟨rfl, rfl, rfl⟩ := trodAll_nil r1
  obtain rfl : args = #[v0, v1] := by cases args; simp_all
  obtain ⟨rfl, rfl⟩ := trodVars_none hV
  obtain ⟨A0, n0, c0, l0, rfl, e0, m0, M0, s0⟩ := open_bytes Try.underlying22 Try.underlying5 cells8 (hval 0 22 v0 rfl rfl) h0
  obtain ⟨u1, rfl, bu1⟩ := open_reg (hval 1 29 v1 rfl rfl) h1
  have fin : ∀ (e : Ending) (W' : World), e = .returned (.bool true) ∧ Below W.heap.size W W' → ∃ v, e = .returned v ∧ Rows.regWritesSpec.post enc Try.prog Try.f3 false true false false W #[.slice A0 n0 c0, RegM.v u1] v W' :=
    fun e W' ⟨he, hb⟩ => ⟨_, he, law_post laid (by kernel_rfl) rfl rfl rfl Try.underlying4 hW' hb⟩
  exact (walk l0 A0 n0 c0 u1 W e0 (by unfold maxLen at M0; omega) s0 bu1).mono fin

set_option maxRecDepth 100000 in
theorem lifted (os : Os) (started : os.Started) (H : Type) (enc : TypeId × Value → H) :
    ReturnsInHanded {} Try.checked os 3 .any (Rows.regWritesSpec.pre6 enc Try.prog Try.f3 Rows.regWritesRow.domain false) (Rows.regWritesSpec.post enc Try.prog Try.f3 false true false false) := by
  refine returnsInHanded_of_change (C := Try.checked) (s := Rows.regWritesSpec) own started (by kernel_rfl) Try.func3
    (ChangeSpec.witness6 (enc := enc) (C := Try.checked) false ⟨#[], #[.slice none 0 0, .agg #[.int .u8 0, .int .u64 0, .int .i64 0, .slice none 0 0, .slice none 0 0, .slice none 0 0, .int .u64 0, .slice none 0 0]], []⟩ 8 (by kernel_rfl) (by kernel_rfl) (by kernel_rfl) (by kernel_rfl)) ?_
  intro W base args ds gs before hval hW _ _
  exact contract H enc W base args ds gs before hval hW

theorem proved : Rows.RegWritesSaid :=
  OpenClaim.holds_of_wide 3 Try.f3 rfl rfl rfl rfl rfl rfl rfl ⟨rfl, rfl, rfl, rfl, rfl⟩ rfl rfl rfl rfl rfl (by kernel_rfl) Try.func3 (by kernel_rfl)
    (of_decide_eq_true (by kernel_rfl)) (by unfold Func.isWrapper; first | (rw [if_pos (by decide +kernel)]; kernel_rfl) | (rw [if_neg (by decide +kernel)]; exact ⟨rfl, rfl⟩))
    (fun os started H enc _ => lifted os started H enc)

end Go.Proofs.Ytkfejiolfkepkaa.regWrites
