/-
  Texts of this claim put together: RefSame6.
-/
import Derived.Test.YtnkjdijbfnmnhaaGreatShort
import Derived.Test.YtnkjdijbfnmnhaaGreatJ35
import Derived.BigQuiet
import Derived.IntWalk
import Derived.Deep.RegionHeld
import Derived.Deep.DeepCutAuto
/-
  Contracts of layer 6's reference's SameReply and Same.
-/
namespace Go.Proofs.YtnkjdijbfnmnhaaGreat
open Go.RowKit

theorem list_ext {α : Type} {l1 l2 : List α} {n : Nat} (h1 : l1.length = n) (h2 : l2.length = n) (h : ∀ j, j < n → l1[j]? = l2[j]?) : l1 = l2 := by
  refine List.ext_getElem? fun j => ?_
  by_cases hj : j < n
  · exact h j hj
  · rw [List.getElem?_eq_none (by omega), List.getElem?_eq_none (by omega)]
theorem no_of {G : Bool} {p q : Prop} (h : G = true → p) (hq : p → q) (hn : ¬ q) : G = false := by
  cases G with
  | false => rfl
  | true => exact absurd (hq (h rfl)) hn

set_option maxRecDepth 100000 in
set_option maxHeartbeats 6400000 in
theorem refSameRep_any (x y : RepM) (B : Nat) (w : World) (hx : RepM.ok w B x) (hy : RepM.ok w B y) (hB : B ≤ w.heap.size) :
    Calls Tryz.prog 13 #[x.v, y.v] w fun e w' => e = .returned (.bool (decide (x.p = y.p))) ∧ Below w.heap.size w w' := by
  obtain ⟨er, inc, st, ⟨A, c, va⟩⟩ := x
  obtain ⟨er2, inc2, st2, ⟨A2, c2, va2⟩⟩ := y
  have h1 := hx.2
  have h2 := hy.2
  obtain ⟨n, hn⟩ : ∃ n, va.length = n := ⟨_, rfl⟩
  obtain ⟨n2, hn2⟩ : ∃ n, va2.length = n := ⟨_, rfl⟩
  have hm : n ≤ 9223372036854775807 := by have h3 := h1.1; have h4 := h1.2.1; unfold maxLen at h4; simp only at h3 h4; omega
  have hm2 : n2 ≤ 9223372036854775807 := by have h3 := h2.1; have h4 := h2.2.1; unfold maxLen at h4; simp only at h3 h4; omega
  have HS1 := hide_ (fun (u : World) (hb : Below w.heap.size w u) => (h1.2.2.1.below (hb.mono hB) : Sees u B A (va.flatMap intC)))
  have HS2 := hide_ (fun (u : World) (hb : Below w.heap.size w u) => (h2.2.2.1.below (hb.mono hB) : Sees u B A2 (va2.flatMap intC)))
  obtain ⟨G, hG⟩ : ∃ G, decide ((RepM.mk er inc st ⟨A, c, va⟩).p = (RepM.mk er2 inc2 st2 ⟨A2, c2, va2⟩).p) = G := ⟨_, rfl⟩
  have HN := hide_ (show G = true → er = er2 ∧ inc = inc2 ∧ st = st2 ∧ va = va2 from fun h => by
    rw [h, decide_eq_true_eq] at hG
    simpa [RepM.p] using hG)
  have HY := hide_ (show er = er2 → inc = inc2 → st = st2 → va = va2 → G = true from fun a b c d => by
    rw [← hG, decide_eq_true_eq]
    subst a b c d
    rfl)
  rw [hG]
  have HL1 := hide_ hn
  have HL2 := hide_ hn2
  simp only [RepM.v, Sl.v, hn, hn2]
  have HW := hide_ (((Below.refl w.heap.size w).alloc (Nat.le_refl _) (.cells #[.int .i64 er, .int .u64 inc, .int .i64 st, .slice A n c] 38)).alloc (by simp) (.cells #[.int .i64 er2, .int .u64 inc2, .int .i64 st2, .slice A2 n2 c2] 38))
  have HX := hide_ ((BoxAt.new w #[.int .i64 er, .int .u64 inc, .int .i64 st, .slice A n c] 38).alloc (.cells #[.int .i64 er2, .int .u64 inc2, .int .i64 st2, .slice A2 n2 c2] 38))
  have HYB := hide_ (show BoxAt ((w.alloc (.cells #[.int .i64 er, .int .u64 inc, .int .i64 st, .slice A n c] 38)).alloc (.cells #[.int .i64 er2, .int .u64 inc2, .int .i64 st2, .slice A2 n2 c2] 38)) (w.heap.size + 1) #[.int .i64 er2, .int .u64 inc2, .int .i64 st2, .slice A2 n2 c2] 38 by
    have := BoxAt.new (w.alloc (.cells #[.int .i64 er, .int .u64 inc, .int .i64 st, .slice A n c] 38)) #[.int .i64 er2, .int .u64 inc2, .int .i64 st2, .slice A2 n2 c2] 38
    simpa using this)
  clear hx hy h1 h2 hn hn2 hG
  by_cases q1 : er = er2
  case neg =>
    have HP := hide_ (no_of HN.out (fun h => h.1) q1)
    have hd : (er != er2) = true := bne_iff_ne.2 q1
    clear q1
    go_enter Tryz.func13, Tryz.ntmps13
    go_wp2
    go_ret
    exact ⟨ret_boolT HP.out.symm, HW.out⟩
  subst q1
  by_cases q2 : inc = inc2
  case neg =>
    have HP := hide_ (no_of HN.out (fun h => h.2.1) q2)
    have hd : (inc != inc2) = true := bne_iff_ne.2 q2
    clear q2
    go_enter Tryz.func13, Tryz.ntmps13
    go_wp2
    go_ret
    exact ⟨ret_boolT HP.out.symm, HW.out⟩
  subst q2
  by_cases q3 : st = st2
  case neg =>
    have HP := hide_ (no_of HN.out (fun h => h.2.2.1) q3)
    have hd : (st != st2) = true := bne_iff_ne.2 q3
    clear q3
    go_enter Tryz.func13, Tryz.ntmps13
    go_wp2
    go_ret
    exact ⟨ret_boolT HP.out.symm, HW.out⟩
  subst q3
  by_cases q4 : n = n2
  case neg =>
    have HP := hide_ (no_of HN.out (fun h => show n = n2 by rw [← HL1.out, ← HL2.out, h.2.2.2]) q4)
    have hd : ((n : Int) != (n2 : Int)) = true := bne_iff_ne.2 (by omega)
    clear q4
    go_enter Tryz.func13, Tryz.ntmps13
    go_wp2
    go_ret
    exact ⟨ret_boolT HP.out.symm, HW.out⟩
  subst q4
  have HY2 := hide_ (HY.out rfl rfl rfl)
  go_enter Tryz.func13, Tryz.ntmps13
  go_wp2
  go_loopw [37] (fun i wr => ∃ k : Nat, k ≤ n ∧ i = .int .i64 k ∧ Hid (∀ j, j < k → va[j]? = va2[j]?) ∧ Below w.heap.size w wr ∧ Hid (BoxAt wr w.heap.size #[.int .i64 er, .int .u64 inc, .int .i64 st, .slice A n c] 38 ∧ BoxAt wr (w.heap.size + 1) #[.int .i64 er, .int .u64 inc, .int .i64 st, .slice A2 n c2] 38)) (fun i _ => n - (intOf i).toNat)
  case atStart => exact ⟨0, Nat.zero_le _, rfl, (fun j hj => absurd hj (by omega)), HW.out, HX.out, HYB.out⟩
  case round =>
    obtain ⟨k, hk, rfl, HJ, hb, HXR⟩ := hrel
    have hz : w.heap.size < wr.heap.size := HXR.out.1.lt
    have hz2 : w.heap.size + 1 < wr.heap.size := HXR.out.2.lt
    have hcx := HXR.out.1.cell
    have hcy := HXR.out.2.cell
    have HB := hide_ hb
    by_cases hlt : k < n
    case neg =>
      obtain rfl : k = n := by omega
      have HP := hide_ (HY2.out (list_ext HL1.out HL2.out HJ.out))
      clear hb
      go_wp2
      go_ret
      exact ⟨ret_boolT HP.out.symm, HB.out⟩
    obtain ⟨x, hx⟩ : ∃ x, va[k]? = some x := ⟨_, List.getElem?_eq_getElem (by rw [HL1.out]; exact hlt)⟩
    obtain ⟨y, hy⟩ : ∃ y, va2[k]? = some y := ⟨_, List.getElem?_eq_getElem (by rw [HL2.out]; exact hlt)⟩
    obtain ⟨tb, ot, hAe, hab, e0⟩ := (HS1.out _ hb).i64 hx
    obtain ⟨ub, uo, hAe2, hab2, g0⟩ := (HS2.out _ hb).i64 hy
    have hwz : tb < wr.heap.size := by omega
    have huz : ub < wr.heap.size := by omega
    subst hAe hAe2
    have HXX := hide_ hx
    have HYY := hide_ hy
    clear hx hy hb HS1 HS2
    by_cases hq : x = y
    case neg =>
      have HP := hide_ (no_of HN.out (fun h => show x = y by have h2 := HXX.out; rw [h.2.2.2, HYY.out] at h2; injection h2 with h2; exact h2.symm) hq)
      have hd2 : (x != y) = true := bne_iff_ne.2 hq
      have hd : (x == y) = false := beq_eq_false_iff_ne.2 hq
      clear hq
      go_upto_region 6 with fail
      go_quiet (fail)
      go_wp2
      go_ret
      exact ⟨ret_boolT HP.out.symm, HB.out.trans ⟨rfl, rfl, rfl, Nat.le_refl _, fun _ _ => rfl⟩⟩
    subst hq
    have HJ2 := hide_ (show ∀ j, j < k + 1 → va[j]? = va2[j]? from fun j hj => by
      by_cases h : j = k
      · rw [h, HXX.out, HYY.out]
      · exact HJ.out j (by omega))
    go_upto_region 6 with fail
    go_quiet (fail)
    go_wp2
    go_roundw
    case rel => exact ⟨k + 1, by omega, by go_num, HJ2, HB.out.trans ⟨rfl, rfl, rfl, Nat.le_refl _, fun _ _ => rfl⟩, HXR.out.1, HXR.out.2⟩
    case measure => simp [intOf]; omega

set_option maxRecDepth 100000 in
set_option maxHeartbeats 25600000 in
theorem refSameG_any (x y : RegM) (B : Nat) (w : World) (hx : RegM.ok w B x) (hy : RegM.ok w B y) (hB : B ≤ w.heap.size) :
    Calls Tryz.prog 12 #[x.v, y.v] w fun e w' => e = .returned (.bool (decide (x.p = y.p))) ∧ Below w.heap.size w w' := by
  have HW := hide_ (show Below w.heap.size w ((w.alloc (.cells x.box 31)).alloc (.cells y.box 31)) from ((Below.refl _ _).alloc (Nat.le_refl _) _).alloc (by simp) _)
  have HX := hide_ ((BoxAt.new w x.box 31).alloc (.cells y.box 31))
  have HY := hide_ (show BoxAt ((w.alloc (.cells x.box 31)).alloc (.cells y.box 31)) (w.heap.size + 1) y.box 31 by
    have := BoxAt.new (w.alloc (.cells x.box 31)) y.box 31
    simpa using this)
  have HVA := hide_ (fun (u : World) (hb : Below w.heap.size w u) => refSameRep_any ⟨0, 0, 0, x.va⟩ ⟨0, 0, 0, y.va⟩ B u ⟨by unfold I64 U64; simp, ints_stable.below hx.2.1 (hb.mono hB)⟩ ⟨by unfold I64 U64; simp, ints_stable.below hy.2.1 (hb.mono hB)⟩ (Nat.le_trans hB hb.size))
  have HD1 := hide_ (fun (u : World) (hb : Below w.heap.size w u) => dns_stable.below hx.2.2.1 (hb.mono hB))
  have HD2 := hide_ (fun (u : World) (hb : Below w.heap.size w u) => dns_stable.below hy.2.2.1 (hb.mono hB))
  have HO1 := hide_ (fun (u : World) (hb : Below w.heap.size w u) => cels_stable.below hx.2.2.2.1 (hb.mono hB))
  have HO2 := hide_ (fun (u : World) (hb : Below w.heap.size w u) => cels_stable.below hy.2.2.2.1 (hb.mono hB))
  have HM1 := hide_ (fun (u : World) (hb : Below w.heap.size w u) => mrks_stable.below hx.2.2.2.2 (hb.mono hB))
  have HM2 := hide_ (fun (u : World) (hb : Below w.heap.size w u) => mrks_stable.below hy.2.2.2.2 (hb.mono hB))
  have m1 := sl_len hx.2.2.1
  have m2 := sl_len hy.2.2.1
  have m3 := sl_len hx.2.2.2.1
  have m4 := sl_len hy.2.2.2.1
  have m5 := sl_len hx.2.2.2.2
  have m6 := sl_len hy.2.2.2.2
  clear hx hy
  obtain ⟨ki, inc, st, ⟨vA, vc, vl⟩, ⟨dA, dc, dl⟩, ⟨oA, oc, ol⟩, la, ⟨mA, mc, ml⟩⟩ := x
  obtain ⟨ki2, inc2, st2, ⟨vA2, vc2, vl2⟩, ⟨dA2, dc2, dl2⟩, ⟨oA2, oc2, ol2⟩, la2, ⟨mA2, mc2, ml2⟩⟩ := y
  obtain ⟨G, hG⟩ : ∃ G, decide ((RegM.mk ki inc st ⟨vA, vc, vl⟩ ⟨dA, dc, dl⟩ ⟨oA, oc, ol⟩ la ⟨mA, mc, ml⟩).p = (RegM.mk ki2 inc2 st2 ⟨vA2, vc2, vl2⟩ ⟨dA2, dc2, dl2⟩ ⟨oA2, oc2, ol2⟩ la2 ⟨mA2, mc2, ml2⟩).p) = G := ⟨_, rfl⟩
  have HN := hide_ (show G = true → ki = ki2 ∧ inc = inc2 ∧ st = st2 ∧ vl = vl2 ∧ dl.map DoneM.p = dl2.map DoneM.p ∧ ol = ol2 ∧ la = la2 ∧ ml = ml2 from fun h => by
    rw [h, decide_eq_true_eq] at hG
    simpa only [RegM.p, RegP.mk.injEq] using hG)
  have HYE := hide_ (show ki = ki2 → inc = inc2 → st = st2 → vl = vl2 → dl.map DoneM.p = dl2.map DoneM.p → ol = ol2 → la = la2 → ml = ml2 → G = true from fun a b c d e f g h => by
    rw [← hG, decide_eq_true_eq]
    simp only [RegM.p, RegP.mk.injEq]
    exact ⟨a, b, c, d, e, f, g, h⟩)
  rw [hG]
  obtain ⟨qv, hqv⟩ : ∃ q, decide (vl = vl2) = q := ⟨_, rfl⟩
  have HQV := hide_ hqv
  have hqv2 : decide ((RepM.mk 0 0 0 ⟨vA, vc, vl⟩).p = (RepM.mk 0 0 0 ⟨vA2, vc2, vl2⟩).p) = qv := by rw [← hqv]; simp [RepM.p]
  simp only [hqv2] at HVA
  obtain ⟨nv, hnv⟩ : ∃ n, vl.length = n := ⟨_, rfl⟩
  obtain ⟨nd, hnd⟩ : ∃ n, dl.length = n := ⟨_, rfl⟩
  obtain ⟨no, hno⟩ : ∃ n, ol.length = n := ⟨_, rfl⟩
  obtain ⟨nm, hnm⟩ : ∃ n, ml.length = n := ⟨_, rfl⟩
  obtain ⟨nv2, hnv2⟩ : ∃ n, vl2.length = n := ⟨_, rfl⟩
  obtain ⟨nd2, hnd2⟩ : ∃ n, dl2.length = n := ⟨_, rfl⟩
  obtain ⟨no2, hno2⟩ : ∃ n, ol2.length = n := ⟨_, rfl⟩
  obtain ⟨nm2, hnm2⟩ : ∃ n, ml2.length = n := ⟨_, rfl⟩
  simp only [RegM.v, RegM.box, RepM.v, Sl.v, hnv, hnd, hno, hnm, hnv2, hnd2, hno2, hnm2] at HX HY HW HVA m1 m2 m3 m4 m5 m6 ⊢
  have HND := hide_ hnd
  have HNO := hide_ hno
  have HNM := hide_ hnm
  have HND2 := hide_ hnd2
  have HNO2 := hide_ hno2
  have HNM2 := hide_ hnm2
  clear hG hqv hqv2 hnv hnd hno hnm hnv2 hnd2 hno2 hnm2
  by_cases q1 : ki = ki2
  case neg =>
    have HP := hide_ (no_of HN.out (fun h => h.1) q1)
    have hd : (ki != ki2) = true := bne_iff_ne.2 q1
    clear q1
    go_enter Tryz.func12, Tryz.ntmps12
    go_wp2
    go_ret
    exact ⟨ret_boolT HP.out.symm, HW.out⟩
  subst q1
  by_cases q2 : inc = inc2
  case neg =>
    have HP := hide_ (no_of HN.out (fun h => h.2.1) q2)
    have hd : (inc != inc2) = true := bne_iff_ne.2 q2
    clear q2
    go_enter Tryz.func12, Tryz.ntmps12
    go_wp2
    go_ret
    exact ⟨ret_boolT HP.out.symm, HW.out⟩
  subst q2
  by_cases q3 : st = st2
  case neg =>
    have HP := hide_ (no_of HN.out (fun h => h.2.2.1) q3)
    have hd : (st != st2) = true := bne_iff_ne.2 q3
    clear q3
    go_enter Tryz.func12, Tryz.ntmps12
    go_wp2
    go_ret
    exact ⟨ret_boolT HP.out.symm, HW.out⟩
  subst q3
  by_cases q4 : la = la2
  case neg =>
    have HP := hide_ (no_of HN.out (fun h => h.2.2.2.2.2.2.1) q4)
    have hd : (la != la2) = true := bne_iff_ne.2 q4
    clear q4
    go_enter Tryz.func12, Tryz.ntmps12
    go_wp2
    go_ret
    exact ⟨ret_boolT HP.out.symm, HW.out⟩
  subst q4
  by_cases q5 : nd = nd2
  case neg =>
    have HP := hide_ (no_of HN.out (fun h => show nd = nd2 from by have h2 := congrArg List.length h.2.2.2.2.1; rw [List.length_map, List.length_map, HND.out, HND2.out] at h2; exact h2) q5)
    have hd : ((nd : Int) != (nd2 : Int)) = true := bne_iff_ne.2 (by omega)
    clear q5
    go_enter Tryz.func12, Tryz.ntmps12
    go_wp2
    go_ret
    exact ⟨ret_boolT HP.out.symm, HW.out⟩
  subst q5
  by_cases q6 : no = no2
  case neg =>
    have HP := hide_ (no_of HN.out (fun h => show no = no2 from by rw [← HNO.out, ← HNO2.out, h.2.2.2.2.2.1]) q6)
    have hd : ((no : Int) != (no2 : Int)) = true := bne_iff_ne.2 (by omega)
    clear q6
    go_enter Tryz.func12, Tryz.ntmps12
    go_wp2
    go_ret
    exact ⟨ret_boolT HP.out.symm, HW.out⟩
  subst q6
  by_cases q7 : nm = nm2
  case neg =>
    have HP := hide_ (no_of HN.out (fun h => show nm = nm2 from by rw [← HNM.out, ← HNM2.out, h.2.2.2.2.2.2.2]) q7)
    have hd : ((nm : Int) != (nm2 : Int)) = true := bne_iff_ne.2 (by omega)
    clear q7
    go_enter Tryz.func12, Tryz.ntmps12
    go_wp2
    go_ret
    exact ⟨ret_boolT HP.out.symm, HW.out⟩
  subst q7
  have HY2 := hide_ (fun a b c d => HYE.out rfl rfl rfl a b c rfl d)
  go_enter Tryz.func12, Tryz.ntmps12
  go_wp2_with fail
  refine (HVA.out _ HW.out).mono ?_
  rintro en w1 ⟨rfl, hb1⟩
  have HB1 := hide_ (HW.out.trans (hb1.mono HW.out.size))
  have HX1 := hide_ (HX.out.below hb1)
  have HYB := hide_ (HY.out.below hb1)
  clear hb1 HVA HX HY
  have hz1 : w.heap.size < w1.heap.size := HX1.out.lt
  have hy1 : w.heap.size + 1 < w1.heap.size := HYB.out.lt
  have hcx := HX1.out.cell
  have hcy := HYB.out.cell
  cases qv with
  | false =>
    have HP := hide_ (no_of HN.out (fun h => h.2.2.2.1) (of_decide_eq_false HQV.out))
    go_wp2
    go_ret
    exact ⟨ret_boolT HP.out.symm, HB1.out⟩
  | true =>
  have HVL := hide_ (of_decide_eq_true HQV.out)
  go_wp2
  clear hcx hcy
  go_loopw [74] (fun i wr => ∃ k : Nat, k ≤ nd ∧ i = .int .i64 k ∧ Hid (∀ j, j < k → (dl.map DoneM.p)[j]? = (dl2.map DoneM.p)[j]?) ∧ Below w.heap.size w wr ∧ Hid (BoxAt wr w.heap.size #[.int .u8 ki, .int .u64 inc, .int .i64 st, .slice vA nv vc, .slice dA nd dc, .slice oA no oc, .int .u64 la, .slice mA nm mc] 31 ∧ BoxAt wr (w.heap.size + 1) #[.int .u8 ki, .int .u64 inc, .int .i64 st, .slice vA2 nv2 vc2, .slice dA2 nd dc2, .slice oA2 no oc2, .int .u64 la, .slice mA2 nm mc2] 31)) (fun i _ => nd - (intOf i).toNat)
  case atStart => exact ⟨0, Nat.zero_le _, rfl, (fun j hj => absurd hj (by omega)), HB1.out, HX1.out, HYB.out⟩
  case round =>
    obtain ⟨k, hk, rfl, HJ, hb, HXR⟩ := hrel
    have hz : w.heap.size < wr.heap.size := HXR.out.1.lt
    have hz2 : w.heap.size + 1 < wr.heap.size := HXR.out.2.lt
    have hcx := HXR.out.1.cell
    have hcy := HXR.out.2.cell
    have HB := hide_ hb
    by_cases hlt : k < nd
    case pos =>
      obtain ⟨x, hx⟩ : ∃ x, dl[k]? = some x := ⟨_, List.getElem?_eq_getElem (by rw [HND.out]; exact hlt)⟩
      obtain ⟨y, hy⟩ : ∃ y, dl2[k]? = some y := ⟨_, List.getElem?_eq_getElem (by rw [HND2.out]; exact hlt)⟩
      obtain ⟨tb, ot, hAe, hab, e0, e1, e2, e3, e4, e5⟩ := (HD1.out _ hb).2.2.1.done hx
      obtain ⟨ub, uo, hAe2, hab2, g0, g1, g2, g3, g4, g5⟩ := (HD2.out _ hb).2.2.1.done hy
      have hwz : tb < wr.heap.size := by have := hb.size; omega
      have huz : ub < wr.heap.size := by have := hb.size; omega
      subst hAe hAe2
      have HSR := hide_ (fun (u : World) (hu : Below wr.heap.size wr u) => refSameRep_any ⟨x.er, x.inc, x.st, x.va⟩ ⟨y.er, y.inc, y.st, y.va⟩ B u ⟨((HD1.out _ hb).2.2.2 x (List.mem_of_getElem? hx)).1.2.2, ints_stable.below ((HD1.out _ hb).2.2.2 x (List.mem_of_getElem? hx)).2 (hu.mono (Nat.le_trans hB hb.size))⟩ ⟨((HD2.out _ hb).2.2.2 y (List.mem_of_getElem? hy)).1.2.2, ints_stable.below ((HD2.out _ hb).2.2.2 y (List.mem_of_getElem? hy)).2 (hu.mono (Nat.le_trans hB hb.size))⟩ (Nat.le_trans hB (Nat.le_trans hb.size hu.size)))
      have HXX := hide_ (show (dl.map DoneM.p)[k]? = some x.p by rw [List.getElem?_map, hx]; rfl)
      have HYY := hide_ (show (dl2.map DoneM.p)[k]? = some y.p by rw [List.getElem?_map, hy]; rfl)
      obtain ⟨rx, hrx⟩ : ∃ b, decide (x.p = y.p) = b := ⟨_, rfl⟩
      have HRX := hide_ hrx
      have HAT := hide_ (show decide (x.p = y.p) = (decide (x.cl = y.cl) && (decide (x.sq = y.sq) && decide ((RepM.mk x.er x.inc x.st x.va).p = (RepM.mk y.er y.inc y.st y.va).p))) by
        rw [Bool.eq_iff_iff]
        simp only [Bool.and_eq_true, decide_eq_true_eq, DoneM.p, RepM.p, Prod.mk.injEq])
      rw [hrx] at HAT
      obtain ⟨q, hq⟩ : ∃ b, decide ((RepM.mk x.er x.inc x.st x.va).p = (RepM.mk y.er y.inc y.st y.va).p) = b := ⟨_, rfl⟩
      rw [hq] at HAT
      simp only [hq] at HSR
      have HEQ := hide_ (show rx = true → (dl.map DoneM.p)[k]? = (dl2.map DoneM.p)[k]? from fun h => by rw [HXX.out, HYY.out, of_decide_eq_true (HRX.out.trans h)])
      have HNE := hide_ (show rx = false → G = false from fun h => no_of HN.out (fun h => show x.p = y.p by have h2 := HXX.out; rw [h.2.2.2.2.1, HYY.out] at h2; injection h2 with h2; exact h2.symm) (of_decide_eq_false (HRX.out.trans h)))
      clear hx hy hb hq hrx
      obtain ⟨cl, sq, er, in3, st3, ⟨A, c, va⟩⟩ := x
      obtain ⟨cl2, sq2, er2, in4, st4, ⟨A2, c2, va2⟩⟩ := y
      simp only at e0 e1 e2 e3 e4 e5 g0 g1 g2 g3 g4 g5 HAT HSR
      simp only [RepM.v, Sl.v] at HSR
      have HB0 := hide_ (show Below wr.heap.size wr wr.drew from (Below.refl _ _).drew)
      have HSX := hide_ (fun (w' : World) (hu : Below wr.heap.size wr w') => show (∀ i : Nat, w'.cell? ⟨w.heap.size, i, none⟩ = (#[.int .u8 ki, .int .u64 inc, .int .i64 st, .slice vA nv vc, .slice (some ⟨tb, ot, none⟩) nd dc, .slice oA no oc, .int .u64 la, .slice mA nm mc] : Array Value)[i]?) ∧ (∀ i : Nat, w'.cell? ⟨w.heap.size + 1, i, none⟩ = (#[.int .u8 ki, .int .u64 inc, .int .i64 st, .slice vA2 nv2 vc2, .slice (some ⟨ub, uo, none⟩) nd dc2, .slice oA2 no oc2, .int .u64 la, .slice mA2 nm mc2] : Array Value)[i]?) ∧ w'.cell? ⟨tb, ot + k * 6, none⟩ = some (.int .u8 cl) ∧ w'.cell? ⟨tb, ot + k * 6 + 1, none⟩ = some (.int .u64 sq) ∧ w'.cell? ⟨tb, ot + k * 6 + 2, none⟩ = some (.int .i64 er) ∧ w'.cell? ⟨tb, ot + k * 6 + 3, none⟩ = some (.int .u64 in3) ∧ w'.cell? ⟨tb, ot + k * 6 + 4, none⟩ = some (.int .i64 st3) ∧ w'.cell? ⟨tb, ot + k * 6 + 5, none⟩ = some (.slice A va.length c) ∧ w'.cell? ⟨ub, uo + k * 6, none⟩ = some (.int .u8 cl2) ∧ w'.cell? ⟨ub, uo + k * 6 + 1, none⟩ = some (.int .u64 sq2) ∧ w'.cell? ⟨ub, uo + k * 6 + 2, none⟩ = some (.int .i64 er2) ∧ w'.cell? ⟨ub, uo + k * 6 + 3, none⟩ = some (.int .u64 in4) ∧ w'.cell? ⟨ub, uo + k * 6 + 4, none⟩ = some (.int .i64 st4) ∧ w'.cell? ⟨ub, uo + k * 6 + 5, none⟩ = some (.slice A2 va2.length c2) from ⟨(HXR.out.1.below hu).cell, (HXR.out.2.below hu).cell, (hu.cell (p := ⟨tb, ot + k * 6, none⟩) hwz).trans e0, (hu.cell (p := ⟨tb, ot + k * 6 + 1, none⟩) hwz).trans e1, (hu.cell (p := ⟨tb, ot + k * 6 + 2, none⟩) hwz).trans e2, (hu.cell (p := ⟨tb, ot + k * 6 + 3, none⟩) hwz).trans e3, (hu.cell (p := ⟨tb, ot + k * 6 + 4, none⟩) hwz).trans e4, (hu.cell (p := ⟨tb, ot + k * 6 + 5, none⟩) hwz).trans e5, (hu.cell (p := ⟨ub, uo + k * 6, none⟩) huz).trans g0, (hu.cell (p := ⟨ub, uo + k * 6 + 1, none⟩) huz).trans g1, (hu.cell (p := ⟨ub, uo + k * 6 + 2, none⟩) huz).trans g2, (hu.cell (p := ⟨ub, uo + k * 6 + 3, none⟩) huz).trans g3, (hu.cell (p := ⟨ub, uo + k * 6 + 4, none⟩) huz).trans g4, (hu.cell (p := ⟨ub, uo + k * 6 + 5, none⟩) huz).trans g5⟩)
      go_upto_region 6 with fail
      go_cut [120] (fun c wx => c = .bool (!rx) ∧ Below w.heap.size w wx ∧ Hid (BoxAt wx w.heap.size #[.int .u8 ki, .int .u64 inc, .int .i64 st, .slice vA nv vc, .slice (some ⟨tb, ot, none⟩) nd dc, .slice oA no oc, .int .u64 la, .slice mA nm mc] 31 ∧ BoxAt wx (w.heap.size + 1) #[.int .u8 ki, .int .u64 inc, .int .i64 st, .slice vA2 nv2 vc2, .slice (some ⟨ub, uo, none⟩) nd dc2, .slice oA2 no oc2, .int .u64 la, .slice mA2 nm mc2] 31))
      case first =>
        clear e0 e1 e2 e3 e4 e5 g0 g1 g2 g3 g4 g5
        by_cases q1 : cl = cl2
        case neg =>
          have HP := hide_ (show (!rx) = true by rw [HAT.out]; simp [q1])
          have hd : (cl != cl2) = true := bne_iff_ne.2 q1
          clear q1
          refine wp_region_held_drew (S := fun w' => (∀ i : Nat, w'.cell? ⟨w.heap.size, i, none⟩ = (#[.int .u8 ki, .int .u64 inc, .int .i64 st, .slice vA nv vc, .slice (some ⟨tb, ot, none⟩) nd dc, .slice oA no oc, .int .u64 la, .slice mA nm mc] : Array Value)[i]?) ∧ (∀ i : Nat, w'.cell? ⟨w.heap.size + 1, i, none⟩ = (#[.int .u8 ki, .int .u64 inc, .int .i64 st, .slice vA2 nv2 vc2, .slice (some ⟨ub, uo, none⟩) nd dc2, .slice oA2 no oc2, .int .u64 la, .slice mA2 nm mc2] : Array Value)[i]?) ∧ w'.cell? ⟨tb, ot + k * 6, none⟩ = some (.int .u8 cl) ∧ w'.cell? ⟨tb, ot + k * 6 + 1, none⟩ = some (.int .u64 sq) ∧ w'.cell? ⟨tb, ot + k * 6 + 2, none⟩ = some (.int .i64 er) ∧ w'.cell? ⟨tb, ot + k * 6 + 3, none⟩ = some (.int .u64 in3) ∧ w'.cell? ⟨tb, ot + k * 6 + 4, none⟩ = some (.int .i64 st3) ∧ w'.cell? ⟨tb, ot + k * 6 + 5, none⟩ = some (.slice A va.length c) ∧ w'.cell? ⟨ub, uo + k * 6, none⟩ = some (.int .u8 cl2) ∧ w'.cell? ⟨ub, uo + k * 6 + 1, none⟩ = some (.int .u64 sq2) ∧ w'.cell? ⟨ub, uo + k * 6 + 2, none⟩ = some (.int .i64 er2) ∧ w'.cell? ⟨ub, uo + k * 6 + 3, none⟩ = some (.int .u64 in4) ∧ w'.cell? ⟨ub, uo + k * 6 + 4, none⟩ = some (.int .i64 st4) ∧ w'.cell? ⟨ub, uo + k * 6 + 5, none⟩ = some (.slice A2 va2.length c2)) (by kernel_rfl) (HSX.out _ HB0.out) (fun hHeld => ?_)
          refine tkY 0 77 ?v1 rfl ?hy1 (by assumption) ?rest1
          case hy1 => intro w hSw; (try dsimp only at hSw); go_simp <;> with_reducible rfl
          simp only [Act.put, sTI, sT0, sT1]
          refine tkY 1 78 ?v2 rfl ?hy2 (by assumption) ?rest2
          case hy2 => intro w hSw; (try dsimp only at hSw); go_simp <;> with_reducible rfl
          simp only [Act.put, sTI, sT0, sT1]
          refine tkY 2 79 ?v3 rfl ?hy3 (by assumption) ?rest3
          case hy3 => intro w hSw; (try dsimp only at hSw); go_simp <;> with_reducible rfl
          simp only [Act.put, sTI, sT0, sT1]
          refine tkY 3 80 ?v4 rfl ?hy4 (by assumption) ?rest4
          case hy4 => intro w hSw; (try dsimp only at hSw); go_simp <;> with_reducible rfl
          simp only [Act.put, sTI, sT0, sT1]
          refine tkY 4 81 ?v5 rfl ?hy5 (by assumption) ?rest5
          case hy5 => intro w hSw; (try dsimp only at hSw); go_simp <;> with_reducible rfl
          simp only [Act.put, sTI, sT0, sT1]
          refine tkY 5 82 ?v6 rfl ?hy6 (by assumption) ?rest6
          case hy6 => intro w hSw; (try dsimp only at hSw); go_simp <;> with_reducible rfl
          simp only [Act.put, sTI, sT0, sT1]
          refine tkY 6 83 ?v7 rfl ?hy7 (by assumption) ?rest7
          case hy7 => intro w hSw; (try dsimp only at hSw); go_simp <;> with_reducible rfl
          simp only [Act.put, sTI, sT0, sT1]
          refine tkY 7 84 ?v8 rfl ?hy8 (by assumption) ?rest8
          case hy8 => intro w hSw; (try dsimp only at hSw); go_simp <;> with_reducible rfl
          simp only [Act.put, sTI, sT0, sT1]
          refine tkY 8 85 ?v9 rfl ?hy9 (by assumption) ?rest9
          case hy9 => intro w hSw; (try dsimp only at hSw); go_simp <;> with_reducible rfl
          simp only [Act.put, sTI, sT0, sT1]
          refine tkY 9 86 ?v10 rfl ?hy10 (by assumption) ?rest10
          case hy10 => intro w hSw; (try dsimp only at hSw); go_simp <;> with_reducible rfl
          simp only [Act.put, sTI, sT0, sT1]
          refine tkY 10 87 ?v11 rfl ?hy11 (by assumption) ?rest11
          case hy11 => intro w hSw; (try dsimp only at hSw); go_simp <;> with_reducible rfl
          simp only [Act.put, sTI, sT0, sT1]
          refine tkY 11 88 ?v12 rfl ?hy12 (by assumption) ?rest12
          case hy12 => intro w hSw; (try dsimp only at hSw); go_simp <;> with_reducible rfl
          simp only [Act.put, sTI, sT0, sT1]
          refine tkY 12 89 ?v13 rfl ?hy13 (by assumption) ?rest13
          case hy13 => intro w hSw; (try dsimp only at hSw); go_simp <;> with_reducible rfl
          simp only [Act.put, sTI, sT0, sT1]
          refine tkY 13 90 ?v14 rfl ?hy14 (by assumption) ?rest14
          case hy14 => intro w hSw; (try dsimp only at hSw); go_simp <;> with_reducible rfl
          simp only [Act.put, sTI, sT0, sT1]
          refine tkU 14 91 rfl (by assumption) ?_
          simp only [Act.put, sTI, sT0, sT1]
          refine tkU 15 92 rfl (by assumption) ?_
          simp only [Act.put, sTI, sT0, sT1]
          refine tkU 16 93 rfl (by assumption) ?_
          simp only [Act.put, sTI, sT0, sT1]
          refine tkU 17 94 rfl (by assumption) ?_
          simp only [Act.put, sTI, sT0, sT1]
          refine tkU 18 95 rfl (by assumption) ?_
          simp only [Act.put, sTI, sT0, sT1]
          refine tkU 19 96 rfl (by assumption) ?_
          simp only [Act.put, sTI, sT0, sT1]
          refine tkU 20 97 rfl (by assumption) ?_
          simp only [Act.put, sTI, sT0, sT1]
          refine tkU 21 98 rfl (by assumption) ?_
          simp only [Act.put, sTI, sT0, sT1]
          refine tkU 22 99 rfl (by assumption) ?_
          simp only [Act.put, sTI, sT0, sT1]
          refine tkU 23 100 rfl (by assumption) ?_
          simp only [Act.put, sTI, sT0, sT1]
          refine tkU 24 101 rfl (by assumption) ?_
          simp only [Act.put, sTI, sT0, sT1]
          refine tkU 25 102 rfl (by assumption) ?_
          simp only [Act.put, sTI, sT0, sT1]
          refine tkU 26 103 rfl (by assumption) ?_
          simp only [Act.put, sTI, sT0, sT1]
          refine tkY 27 104 ?v15 rfl ?hy15 (by assumption) ?rest15
          case hy15 => intro w hSw; (try dsimp only at hSw); go_simp <;> with_reducible rfl
          simp only [Act.put, sTI, sT0, sT1]
          refine tkY 28 105 ?v16 rfl ?hy16 (by assumption) ?rest16
          case hy16 => intro w hSw; (try dsimp only at hSw); go_simp <;> with_reducible rfl
          simp only [Act.put, sTI, sT0, sT1]
          refine tkU 29 106 rfl (by assumption) ?_
          simp only [Act.put, sTI, sT0, sT1]
          refine tkU 30 107 rfl (by assumption) ?_
          simp only [Act.put, sTI, sT0, sT1]
          refine tkU 31 108 rfl (by assumption) ?_
          simp only [Act.put, sTI, sT0, sT1]
          refine tkU 32 109 rfl (by assumption) ?_
          simp only [Act.put, sTI, sT0, sT1]
          refine tkU 33 110 rfl (by assumption) ?_
          simp only [Act.put, sTI, sT0, sT1]
          refine tkU 34 111 rfl (by assumption) ?_
          simp only [Act.put, sTI, sT0, sT1]
          refine tkU 35 112 rfl (by assumption) ?_
          simp only [Act.put, sTI, sT0, sT1]
          refine tkU 36 113 rfl (by assumption) ?_
          simp only [Act.put, sTI, sT0, sT1]
          refine tkU 37 114 rfl (by assumption) ?_
          simp only [Act.put, sTI, sT0, sT1]
          refine tkU 38 115 rfl (by assumption) ?_
          simp only [Act.put, sTI, sT0, sT1]
          refine tkU 39 116 rfl (by assumption) ?_
          simp only [Act.put, sTI, sT0, sT1]
          refine tkU 40 117 rfl (by assumption) ?_
          simp only [Act.put, sTI, sT0, sT1]
          refine tkU 41 118 rfl (by assumption) ?_
          simp only [Act.put, sTI, sT0, sT1]
          refine tkU 42 119 rfl (by assumption) ?_
          simp only [Act.put, sTI, sT0, sT1]
          refine tkY 43 120 ?v17 rfl ?hy17 (by assumption) ?rest17
          case hy17 => intro w hSw; (try dsimp only at hSw); go_simp <;> with_reducible rfl
          simp only [Act.put, sTI, sT0, sT1]
          refine wpAnyH_done (by kernel_rfl) ?_ _
          go_wp2_with fail
          go_meet
          exact ⟨congrArg Value.bool HP.out.symm, HB.out.trans (HB0.out.mono HB.out.size), HXR.out.1.below HB0.out, HXR.out.2.below HB0.out⟩
        subst q1
        by_cases q2 : sq = sq2
        case neg =>
          have HP := hide_ (show (!rx) = true by rw [HAT.out]; simp [q2])
          have hd : (sq != sq2) = true := bne_iff_ne.2 q2
          clear q2
          refine wp_region_held_drew (S := fun w' => (∀ i : Nat, w'.cell? ⟨w.heap.size, i, none⟩ = (#[.int .u8 ki, .int .u64 inc, .int .i64 st, .slice vA nv vc, .slice (some ⟨tb, ot, none⟩) nd dc, .slice oA no oc, .int .u64 la, .slice mA nm mc] : Array Value)[i]?) ∧ (∀ i : Nat, w'.cell? ⟨w.heap.size + 1, i, none⟩ = (#[.int .u8 ki, .int .u64 inc, .int .i64 st, .slice vA2 nv2 vc2, .slice (some ⟨ub, uo, none⟩) nd dc2, .slice oA2 no oc2, .int .u64 la, .slice mA2 nm mc2] : Array Value)[i]?) ∧ w'.cell? ⟨tb, ot + k * 6, none⟩ = some (.int .u8 cl) ∧ w'.cell? ⟨tb, ot + k * 6 + 1, none⟩ = some (.int .u64 sq) ∧ w'.cell? ⟨tb, ot + k * 6 + 2, none⟩ = some (.int .i64 er) ∧ w'.cell? ⟨tb, ot + k * 6 + 3, none⟩ = some (.int .u64 in3) ∧ w'.cell? ⟨tb, ot + k * 6 + 4, none⟩ = some (.int .i64 st3) ∧ w'.cell? ⟨tb, ot + k * 6 + 5, none⟩ = some (.slice A va.length c) ∧ w'.cell? ⟨ub, uo + k * 6, none⟩ = some (.int .u8 cl) ∧ w'.cell? ⟨ub, uo + k * 6 + 1, none⟩ = some (.int .u64 sq2) ∧ w'.cell? ⟨ub, uo + k * 6 + 2, none⟩ = some (.int .i64 er2) ∧ w'.cell? ⟨ub, uo + k * 6 + 3, none⟩ = some (.int .u64 in4) ∧ w'.cell? ⟨ub, uo + k * 6 + 4, none⟩ = some (.int .i64 st4) ∧ w'.cell? ⟨ub, uo + k * 6 + 5, none⟩ = some (.slice A2 va2.length c2)) (by kernel_rfl) (HSX.out _ HB0.out) (fun hHeld => ?_)
          refine tkY 0 77 ?v18 rfl ?hy18 (by assumption) ?rest18
          case hy18 => intro w hSw; (try dsimp only at hSw); go_simp <;> with_reducible rfl
          simp only [Act.put, sTI, sT0, sT1]
          refine tkY 1 78 ?v19 rfl ?hy19 (by assumption) ?rest19
          case hy19 => intro w hSw; (try dsimp only at hSw); go_simp <;> with_reducible rfl
          simp only [Act.put, sTI, sT0, sT1]
          refine tkY 2 79 ?v20 rfl ?hy20 (by assumption) ?rest20
          case hy20 => intro w hSw; (try dsimp only at hSw); go_simp <;> with_reducible rfl
          simp only [Act.put, sTI, sT0, sT1]
          refine tkY 3 80 ?v21 rfl ?hy21 (by assumption) ?rest21
          case hy21 => intro w hSw; (try dsimp only at hSw); go_simp <;> with_reducible rfl
          simp only [Act.put, sTI, sT0, sT1]
          refine tkY 4 81 ?v22 rfl ?hy22 (by assumption) ?rest22
          case hy22 => intro w hSw; (try dsimp only at hSw); go_simp <;> with_reducible rfl
          simp only [Act.put, sTI, sT0, sT1]
          refine tkY 5 82 ?v23 rfl ?hy23 (by assumption) ?rest23
          case hy23 => intro w hSw; (try dsimp only at hSw); go_simp <;> with_reducible rfl
          simp only [Act.put, sTI, sT0, sT1]
          refine tkY 6 83 ?v24 rfl ?hy24 (by assumption) ?rest24
          case hy24 => intro w hSw; (try dsimp only at hSw); go_simp <;> with_reducible rfl
          simp only [Act.put, sTI, sT0, sT1]
          refine tkY 7 84 ?v25 rfl ?hy25 (by assumption) ?rest25
          case hy25 => intro w hSw; (try dsimp only at hSw); go_simp <;> with_reducible rfl
          simp only [Act.put, sTI, sT0, sT1]
          refine tkY 8 85 ?v26 rfl ?hy26 (by assumption) ?rest26
          case hy26 => intro w hSw; (try dsimp only at hSw); go_simp <;> with_reducible rfl
          simp only [Act.put, sTI, sT0, sT1]
          refine tkY 9 86 ?v27 rfl ?hy27 (by assumption) ?rest27
          case hy27 => intro w hSw; (try dsimp only at hSw); go_simp <;> with_reducible rfl
          simp only [Act.put, sTI, sT0, sT1]
          refine tkY 10 87 ?v28 rfl ?hy28 (by assumption) ?rest28
          case hy28 => intro w hSw; (try dsimp only at hSw); go_simp <;> with_reducible rfl
          simp only [Act.put, sTI, sT0, sT1]
          refine tkY 11 88 ?v29 rfl ?hy29 (by assumption) ?rest29
          case hy29 => intro w hSw; (try dsimp only at hSw); go_simp <;> with_reducible rfl
          simp only [Act.put, sTI, sT0, sT1]
          refine tkY 12 89 ?v30 rfl ?hy30 (by assumption) ?rest30
          case hy30 => intro w hSw; (try dsimp only at hSw); go_simp <;> with_reducible rfl
          simp only [Act.put, sTI, sT0, sT1]
          refine tkY 13 90 ?v31 rfl ?hy31 (by assumption) ?rest31
          case hy31 => intro w hSw; (try dsimp only at hSw); go_simp <;> with_reducible rfl
          simp only [Act.put, sTI, sT0, sT1]
          refine tkY 14 91 ?v32 rfl ?hy32 (by assumption) ?rest32
          case hy32 => intro w hSw; (try dsimp only at hSw); go_simp <;> with_reducible rfl
          simp only [Act.put, sTI, sT0, sT1]
          refine tkY 15 92 ?v33 rfl ?hy33 (by assumption) ?rest33
          case hy33 => intro w hSw; (try dsimp only at hSw); go_simp <;> with_reducible rfl
          simp only [Act.put, sTI, sT0, sT1]
          refine tkY 16 93 ?v34 rfl ?hy34 (by assumption) ?rest34
          case hy34 => intro w hSw; (try dsimp only at hSw); go_simp <;> with_reducible rfl
          simp only [Act.put, sTI, sT0, sT1]
          refine tkY 17 94 ?v35 rfl ?hy35 (by assumption) ?rest35
          case hy35 => intro w hSw; (try dsimp only at hSw); go_simp <;> with_reducible rfl
          simp only [Act.put, sTI, sT0, sT1]
          refine tkY 18 95 ?v36 rfl ?hy36 (by assumption) ?rest36
          case hy36 => intro w hSw; (try dsimp only at hSw); go_simp <;> with_reducible rfl
          simp only [Act.put, sTI, sT0, sT1]
          refine tkY 19 96 ?v37 rfl ?hy37 (by assumption) ?rest37
          case hy37 => intro w hSw; (try dsimp only at hSw); go_simp <;> with_reducible rfl
          simp only [Act.put, sTI, sT0, sT1]
          refine tkY 20 97 ?v38 rfl ?hy38 (by assumption) ?rest38
          case hy38 => intro w hSw; (try dsimp only at hSw); go_simp <;> with_reducible rfl
          simp only [Act.put, sTI, sT0, sT1]
          refine tkY 21 98 ?v39 rfl ?hy39 (by assumption) ?rest39
          case hy39 => intro w hSw; (try dsimp only at hSw); go_simp <;> with_reducible rfl
          simp only [Act.put, sTI, sT0, sT1]
          refine tkY 22 99 ?v40 rfl ?hy40 (by assumption) ?rest40
          case hy40 => intro w hSw; (try dsimp only at hSw); go_simp <;> with_reducible rfl
          simp only [Act.put, sTI, sT0, sT1]
          refine tkY 23 100 ?v41 rfl ?hy41 (by assumption) ?rest41
          case hy41 => intro w hSw; (try dsimp only at hSw); go_simp <;> with_reducible rfl
          simp only [Act.put, sTI, sT0, sT1]
          refine tkY 24 101 ?v42 rfl ?hy42 (by assumption) ?rest42
          case hy42 => intro w hSw; (try dsimp only at hSw); go_simp <;> with_reducible rfl
          simp only [Act.put, sTI, sT0, sT1]
          refine tkY 25 102 ?v43 rfl ?hy43 (by assumption) ?rest43
          case hy43 => intro w hSw; (try dsimp only at hSw); go_simp <;> with_reducible rfl
          simp only [Act.put, sTI, sT0, sT1]
          refine tkY 26 103 ?v44 rfl ?hy44 (by assumption) ?rest44
          case hy44 => intro w hSw; (try dsimp only at hSw); go_simp <;> with_reducible rfl
          simp only [Act.put, sTI, sT0, sT1]
          refine tkY 27 104 ?v45 rfl ?hy45 (by assumption) ?rest45
          case hy45 => intro w hSw; (try dsimp only at hSw); go_simp <;> with_reducible rfl
          simp only [Act.put, sTI, sT0, sT1]
          refine tkY 28 105 ?v46 rfl ?hy46 (by assumption) ?rest46
          case hy46 => intro w hSw; (try dsimp only at hSw); go_simp <;> with_reducible rfl
          simp only [Act.put, sTI, sT0, sT1]
          refine tkU 29 106 rfl (by assumption) ?_
          simp only [Act.put, sTI, sT0, sT1]
          refine tkU 30 107 rfl (by assumption) ?_
          simp only [Act.put, sTI, sT0, sT1]
          refine tkU 31 108 rfl (by assumption) ?_
          simp only [Act.put, sTI, sT0, sT1]
          refine tkU 32 109 rfl (by assumption) ?_
          simp only [Act.put, sTI, sT0, sT1]
          refine tkU 33 110 rfl (by assumption) ?_
          simp only [Act.put, sTI, sT0, sT1]
          refine tkU 34 111 rfl (by assumption) ?_
          simp only [Act.put, sTI, sT0, sT1]
          refine tkU 35 112 rfl (by assumption) ?_
          simp only [Act.put, sTI, sT0, sT1]
          refine tkU 36 113 rfl (by assumption) ?_
          simp only [Act.put, sTI, sT0, sT1]
          refine tkU 37 114 rfl (by assumption) ?_
          simp only [Act.put, sTI, sT0, sT1]
          refine tkU 38 115 rfl (by assumption) ?_
          simp only [Act.put, sTI, sT0, sT1]
          refine tkU 39 116 rfl (by assumption) ?_
          simp only [Act.put, sTI, sT0, sT1]
          refine tkU 40 117 rfl (by assumption) ?_
          simp only [Act.put, sTI, sT0, sT1]
          refine tkU 41 118 rfl (by assumption) ?_
          simp only [Act.put, sTI, sT0, sT1]
          refine tkU 42 119 rfl (by assumption) ?_
          simp only [Act.put, sTI, sT0, sT1]
          refine tkY 43 120 ?v47 rfl ?hy47 (by assumption) ?rest47
          case hy47 => intro w hSw; (try dsimp only at hSw); go_simp <;> with_reducible rfl
          simp only [Act.put, sTI, sT0, sT1]
          refine wpAnyH_done (by kernel_rfl) ?_ _
          go_wp2_with fail
          go_meet
          exact ⟨congrArg Value.bool HP.out.symm, HB.out.trans (HB0.out.mono HB.out.size), HXR.out.1.below HB0.out, HXR.out.2.below HB0.out⟩
        subst q2
        have HP := hide_ (show (!rx) = !q by rw [HAT.out]; simp)
        refine wp_region_held_drew (S := fun w' => (∀ i : Nat, w'.cell? ⟨w.heap.size, i, none⟩ = (#[.int .u8 ki, .int .u64 inc, .int .i64 st, .slice vA nv vc, .slice (some ⟨tb, ot, none⟩) nd dc, .slice oA no oc, .int .u64 la, .slice mA nm mc] : Array Value)[i]?) ∧ (∀ i : Nat, w'.cell? ⟨w.heap.size + 1, i, none⟩ = (#[.int .u8 ki, .int .u64 inc, .int .i64 st, .slice vA2 nv2 vc2, .slice (some ⟨ub, uo, none⟩) nd dc2, .slice oA2 no oc2, .int .u64 la, .slice mA2 nm mc2] : Array Value)[i]?) ∧ w'.cell? ⟨tb, ot + k * 6, none⟩ = some (.int .u8 cl) ∧ w'.cell? ⟨tb, ot + k * 6 + 1, none⟩ = some (.int .u64 sq) ∧ w'.cell? ⟨tb, ot + k * 6 + 2, none⟩ = some (.int .i64 er) ∧ w'.cell? ⟨tb, ot + k * 6 + 3, none⟩ = some (.int .u64 in3) ∧ w'.cell? ⟨tb, ot + k * 6 + 4, none⟩ = some (.int .i64 st3) ∧ w'.cell? ⟨tb, ot + k * 6 + 5, none⟩ = some (.slice A va.length c) ∧ w'.cell? ⟨ub, uo + k * 6, none⟩ = some (.int .u8 cl) ∧ w'.cell? ⟨ub, uo + k * 6 + 1, none⟩ = some (.int .u64 sq) ∧ w'.cell? ⟨ub, uo + k * 6 + 2, none⟩ = some (.int .i64 er2) ∧ w'.cell? ⟨ub, uo + k * 6 + 3, none⟩ = some (.int .u64 in4) ∧ w'.cell? ⟨ub, uo + k * 6 + 4, none⟩ = some (.int .i64 st4) ∧ w'.cell? ⟨ub, uo + k * 6 + 5, none⟩ = some (.slice A2 va2.length c2)) (by kernel_rfl) (HSX.out _ HB0.out) (fun hHeld => ?_)
        refine tkY 0 77 ?v48 rfl ?hy48 (by assumption) ?rest48
        case hy48 => intro w hSw; (try dsimp only at hSw); go_simp <;> with_reducible rfl
        simp only [Act.put, sTI, sT0, sT1]
        refine tkY 1 78 ?v49 rfl ?hy49 (by assumption) ?rest49
        case hy49 => intro w hSw; (try dsimp only at hSw); go_simp <;> with_reducible rfl
        simp only [Act.put, sTI, sT0, sT1]
        refine tkY 2 79 ?v50 rfl ?hy50 (by assumption) ?rest50
        case hy50 => intro w hSw; (try dsimp only at hSw); go_simp <;> with_reducible rfl
        simp only [Act.put, sTI, sT0, sT1]
        refine tkY 3 80 ?v51 rfl ?hy51 (by assumption) ?rest51
        case hy51 => intro w hSw; (try dsimp only at hSw); go_simp <;> with_reducible rfl
        simp only [Act.put, sTI, sT0, sT1]
        refine tkY 4 81 ?v52 rfl ?hy52 (by assumption) ?rest52
        case hy52 => intro w hSw; (try dsimp only at hSw); go_simp <;> with_reducible rfl
        simp only [Act.put, sTI, sT0, sT1]
        refine tkY 5 82 ?v53 rfl ?hy53 (by assumption) ?rest53
        case hy53 => intro w hSw; (try dsimp only at hSw); go_simp <;> with_reducible rfl
        simp only [Act.put, sTI, sT0, sT1]
        refine tkY 6 83 ?v54 rfl ?hy54 (by assumption) ?rest54
        case hy54 => intro w hSw; (try dsimp only at hSw); go_simp <;> with_reducible rfl
        simp only [Act.put, sTI, sT0, sT1]
        refine tkY 7 84 ?v55 rfl ?hy55 (by assumption) ?rest55
        case hy55 => intro w hSw; (try dsimp only at hSw); go_simp <;> with_reducible rfl
        simp only [Act.put, sTI, sT0, sT1]
        refine tkY 8 85 ?v56 rfl ?hy56 (by assumption) ?rest56
        case hy56 => intro w hSw; (try dsimp only at hSw); go_simp <;> with_reducible rfl
        simp only [Act.put, sTI, sT0, sT1]
        refine tkY 9 86 ?v57 rfl ?hy57 (by assumption) ?rest57
        case hy57 => intro w hSw; (try dsimp only at hSw); go_simp <;> with_reducible rfl
        simp only [Act.put, sTI, sT0, sT1]
        refine tkY 10 87 ?v58 rfl ?hy58 (by assumption) ?rest58
        case hy58 => intro w hSw; (try dsimp only at hSw); go_simp <;> with_reducible rfl
        simp only [Act.put, sTI, sT0, sT1]
        refine tkY 11 88 ?v59 rfl ?hy59 (by assumption) ?rest59
        case hy59 => intro w hSw; (try dsimp only at hSw); go_simp <;> with_reducible rfl
        simp only [Act.put, sTI, sT0, sT1]
        refine tkY 12 89 ?v60 rfl ?hy60 (by assumption) ?rest60
        case hy60 => intro w hSw; (try dsimp only at hSw); go_simp <;> with_reducible rfl
        simp only [Act.put, sTI, sT0, sT1]
        refine tkY 13 90 ?v61 rfl ?hy61 (by assumption) ?rest61
        case hy61 => intro w hSw; (try dsimp only at hSw); go_simp <;> with_reducible rfl
        simp only [Act.put, sTI, sT0, sT1]
        refine tkY 14 91 ?v62 rfl ?hy62 (by assumption) ?rest62
        case hy62 => intro w hSw; (try dsimp only at hSw); go_simp <;> with_reducible rfl
        simp only [Act.put, sTI, sT0, sT1]
        refine tkY 15 92 ?v63 rfl ?hy63 (by assumption) ?rest63
        case hy63 => intro w hSw; (try dsimp only at hSw); go_simp <;> with_reducible rfl
        simp only [Act.put, sTI, sT0, sT1]
        refine tkY 16 93 ?v64 rfl ?hy64 (by assumption) ?rest64
        case hy64 => intro w hSw; (try dsimp only at hSw); go_simp <;> with_reducible rfl
        simp only [Act.put, sTI, sT0, sT1]
        refine tkY 17 94 ?v65 rfl ?hy65 (by assumption) ?rest65
        case hy65 => intro w hSw; (try dsimp only at hSw); go_simp <;> with_reducible rfl
        simp only [Act.put, sTI, sT0, sT1]
        refine tkY 18 95 ?v66 rfl ?hy66 (by assumption) ?rest66
        case hy66 => intro w hSw; (try dsimp only at hSw); go_simp <;> with_reducible rfl
        simp only [Act.put, sTI, sT0, sT1]
        refine tkY 19 96 ?v67 rfl ?hy67 (by assumption) ?rest67
        case hy67 => intro w hSw; (try dsimp only at hSw); go_simp <;> with_reducible rfl
        simp only [Act.put, sTI, sT0, sT1]
        refine tkY 20 97 ?v68 rfl ?hy68 (by assumption) ?rest68
        case hy68 => intro w hSw; (try dsimp only at hSw); go_simp <;> with_reducible rfl
        simp only [Act.put, sTI, sT0, sT1]
        refine tkY 21 98 ?v69 rfl ?hy69 (by assumption) ?rest69
        case hy69 => intro w hSw; (try dsimp only at hSw); go_simp <;> with_reducible rfl
        simp only [Act.put, sTI, sT0, sT1]
        refine tkY 22 99 ?v70 rfl ?hy70 (by assumption) ?rest70
        case hy70 => intro w hSw; (try dsimp only at hSw); go_simp <;> with_reducible rfl
        simp only [Act.put, sTI, sT0, sT1]
        refine tkY 23 100 ?v71 rfl ?hy71 (by assumption) ?rest71
        case hy71 => intro w hSw; (try dsimp only at hSw); go_simp <;> with_reducible rfl
        simp only [Act.put, sTI, sT0, sT1]
        refine tkY 24 101 ?v72 rfl ?hy72 (by assumption) ?rest72
        case hy72 => intro w hSw; (try dsimp only at hSw); go_simp <;> with_reducible rfl
        simp only [Act.put, sTI, sT0, sT1]
        refine tkY 25 102 ?v73 rfl ?hy73 (by assumption) ?rest73
        case hy73 => intro w hSw; (try dsimp only at hSw); go_simp <;> with_reducible rfl
        simp only [Act.put, sTI, sT0, sT1]
        refine tkY 26 103 ?v74 rfl ?hy74 (by assumption) ?rest74
        case hy74 => intro w hSw; (try dsimp only at hSw); go_simp <;> with_reducible rfl
        simp only [Act.put, sTI, sT0, sT1]
        refine tkY 27 104 ?v75 rfl ?hy75 (by assumption) ?rest75
        case hy75 => intro w hSw; (try dsimp only at hSw); go_simp <;> with_reducible rfl
        simp only [Act.put, sTI, sT0, sT1]
        refine tkY 28 105 ?v76 rfl ?hy76 (by assumption) ?rest76
        case hy76 => intro w hSw; (try dsimp only at hSw); go_simp <;> with_reducible rfl
        simp only [Act.put, sTI, sT0, sT1]
        refine tkY 29 106 ?v77 rfl ?hy77 (by assumption) ?rest77
        case hy77 => intro w hSw; (try dsimp only at hSw); go_simp <;> with_reducible rfl
        simp only [Act.put, sTI, sT0, sT1]
        refine tkY 30 107 ?v78 rfl ?hy78 (by assumption) ?rest78
        case hy78 => intro w hSw; (try dsimp only at hSw); go_simp <;> with_reducible rfl
        simp only [Act.put, sTI, sT0, sT1]
        refine tkY 31 108 ?v79 rfl ?hy79 (by assumption) ?rest79
        case hy79 => intro w hSw; (try dsimp only at hSw); go_simp <;> with_reducible rfl
        simp only [Act.put, sTI, sT0, sT1]
        refine tkY 32 109 ?v80 rfl ?hy80 (by assumption) ?rest80
        case hy80 => intro w hSw; (try dsimp only at hSw); go_simp <;> with_reducible rfl
        simp only [Act.put, sTI, sT0, sT1]
        refine tkY 33 110 ?v81 rfl ?hy81 (by assumption) ?rest81
        case hy81 => intro w hSw; (try dsimp only at hSw); go_simp <;> with_reducible rfl
        simp only [Act.put, sTI, sT0, sT1]
        refine tkY 34 111 ?v82 rfl ?hy82 (by assumption) ?rest82
        case hy82 => intro w hSw; (try dsimp only at hSw); go_simp <;> with_reducible rfl
        simp only [Act.put, sTI, sT0, sT1]
        refine tkY 35 112 ?v83 rfl ?hy83 (by assumption) ?rest83
        case hy83 => intro w hSw; (try dsimp only at hSw); go_simp <;> with_reducible rfl
        simp only [Act.put, sTI, sT0, sT1]
        refine tkY 36 113 ?v84 rfl ?hy84 (by assumption) ?rest84
        case hy84 => intro w hSw; (try dsimp only at hSw); go_simp <;> with_reducible rfl
        simp only [Act.put, sTI, sT0, sT1]
        refine tkY 37 114 ?v85 rfl ?hy85 (by assumption) ?rest85
        case hy85 => intro w hSw; (try dsimp only at hSw); go_simp <;> with_reducible rfl
        simp only [Act.put, sTI, sT0, sT1]
        refine tkY 38 115 ?v86 rfl ?hy86 (by assumption) ?rest86
        case hy86 => intro w hSw; (try dsimp only at hSw); go_simp <;> with_reducible rfl
        simp only [Act.put, sTI, sT0, sT1]
        refine tkY 39 116 ?v87 rfl ?hy87 (by assumption) ?rest87
        case hy87 => intro w hSw; (try dsimp only at hSw); go_simp <;> with_reducible rfl
        simp only [Act.put, sTI, sT0, sT1]
        refine tkY 40 117 ?v88 rfl ?hy88 (by assumption) ?rest88
        case hy88 => intro w hSw; (try dsimp only at hSw); go_simp <;> with_reducible rfl
        simp only [Act.put, sTI, sT0, sT1]
        refine wpAnyH_ready (rs := [41]) (by kernel_rfl) (by simp) ?_
        refine AllReadyH.cons rfl (fun K hK => ?_) AllReadyH.nil
        go_simp
        go_wp2_with fail
        refine (HSR.out _ HB0.out).mono ?_
        rintro en w5 ⟨rfl, hb5⟩
        have HB5 := hide_ (HB0.out.trans (hb5.mono (by simp)))
        clear hb5
        refine hK.out _ _ (HSX.out _ HB5.out) (fun hHeld => ?_)
        clear hK K
        refine tkY 42 119 ?v89 rfl ?hy89 (by assumption) ?rest89
        case hy89 => intro w hSw; (try dsimp only at hSw); go_simp <;> with_reducible rfl
        simp only [Act.put, sTI, sT0, sT1]
        refine tkY 43 120 ?v90 rfl ?hy90 (by assumption) ?rest90
        case hy90 => intro w hSw; (try dsimp only at hSw); go_simp <;> with_reducible rfl
        simp only [Act.put, sTI, sT0, sT1]
        refine wpAnyH_done (by kernel_rfl) ?_ _
        go_wp2_with fail
        go_meet
        exact ⟨congrArg Value.bool HP.out.symm, HB.out.trans (HB5.out.mono HB.out.size), HXR.out.1.below HB5.out, HXR.out.2.below HB5.out⟩
      case rest =>
        obtain ⟨rfl, hbc, HXC⟩ := hcut
        have HBC := hide_ hbc
        clear hbc
        cases rx with
        | false =>
          have HP := hide_ (HNE.out rfl)
          go_wp2
          go_ret
          exact ⟨ret_boolT HP.out.symm, HBC.out⟩
        | true =>
          have HJ2 := hide_ (show ∀ j, j < k + 1 → (dl.map DoneM.p)[j]? = (dl2.map DoneM.p)[j]? from fun j hj => by
            by_cases h : j = k
            · rw [h]; exact HEQ.out rfl
            · exact HJ.out j (by omega))
          go_wp2
          go_roundw
          case rel => exact ⟨k + 1, by omega, by go_num, HJ2, HBC.out, HXC.out.1, HXC.out.2⟩
          case measure => simp [intOf]; omega
    have hkn : nd = k := by omega
    subst hkn
    have HF1 := hide_ (list_ext (by rw [List.length_map, HND.out]) (by rw [List.length_map, HND2.out]) HJ.out)
    have HBW1 := hide_ HB.out
    have HXR1 := hide_ HXR.out
    clear hb HJ HB HXR
    go_wp2
    clear hcx hcy
    go_loopw [125] (fun i wr => ∃ k : Nat, k ≤ no ∧ i = .int .i64 k ∧ Hid (∀ j, j < k → ol[j]? = ol2[j]?) ∧ Below w.heap.size w wr ∧ Hid (BoxAt wr w.heap.size #[.int .u8 ki, .int .u64 inc, .int .i64 st, .slice vA nv vc, .slice dA nd dc, .slice oA no oc, .int .u64 la, .slice mA nm mc] 31 ∧ BoxAt wr (w.heap.size + 1) #[.int .u8 ki, .int .u64 inc, .int .i64 st, .slice vA2 nv2 vc2, .slice dA2 nd dc2, .slice oA2 no oc2, .int .u64 la, .slice mA2 nm mc2] 31)) (fun i _ => no - (intOf i).toNat)
    case atStart => exact ⟨0, Nat.zero_le _, rfl, (fun j hj => absurd hj (by omega)), HBW1.out, HXR1.out.1, HXR1.out.2⟩
    case round =>
      obtain ⟨k, hk, rfl, HJ, hb, HXR⟩ := hrel
      have hz : w.heap.size < wr.heap.size := HXR.out.1.lt
      have hz2 : w.heap.size + 1 < wr.heap.size := HXR.out.2.lt
      have hcx := HXR.out.1.cell
      have hcy := HXR.out.2.cell
      have HB := hide_ hb
      by_cases hlt : k < no
      case pos =>
        obtain ⟨x, hx⟩ : ∃ x, ol[k]? = some x := ⟨_, List.getElem?_eq_getElem (by rw [HNO.out]; exact hlt)⟩
        obtain ⟨y, hy⟩ : ∃ y, ol2[k]? = some y := ⟨_, List.getElem?_eq_getElem (by rw [HNO2.out]; exact hlt)⟩
        obtain ⟨tb, ot, hAe, hab, e0, e1, e2, e3⟩ := (HO1.out _ hb).2.2.1.cel hx
        obtain ⟨ub, uo, hAe2, hab2, g0, g1, g2, g3⟩ := (HO2.out _ hb).2.2.1.cel hy
        have hwz : tb < wr.heap.size := by have := hb.size; omega
        have huz : ub < wr.heap.size := by have := hb.size; omega
        subst hAe hAe2
        have HXX := hide_ hx
        have HYY := hide_ hy
        have HNE := hide_ (show x ≠ y → G = false from fun h => no_of HN.out (fun h => show x = y by have h2 := HXX.out; rw [h.2.2.2.2.2.1, HYY.out] at h2; injection h2 with h2; exact h2.symm) h)
        clear hx hy hb
        obtain ⟨f0, f1, f2, f3⟩ := x
        obtain ⟨h0, h1, h2, h3⟩ := y
        simp only at e0 e1 e2 e3 g0 g1 g2 g3
        by_cases c0 : f0 = h0
        case neg =>
          have HP := hide_ (HNE.out (fun h => c0 (by simp only [Prod.mk.injEq] at h; first | exact h | exact h.1 | exact h.2.1 | exact h.2.2.1 | exact h.2.2.2 | exact h.2.2 | exact h.2)))
          have hd1 : (f0 == h0) = false := beq_eq_false_iff_ne.2 c0
          have hd2 : (f0 != h0) = true := bne_iff_ne.2 c0
          clear c0
          go_upto_region 12 with fail
          go_quiet (fail)
          go_wp2
          go_ret
          exact ⟨ret_boolT HP.out.symm, HB.out.trans ⟨rfl, rfl, rfl, Nat.le_refl _, fun _ _ => rfl⟩⟩
        subst c0
        by_cases c1 : f1 = h1
        case neg =>
          have HP := hide_ (HNE.out (fun h => c1 (by simp only [Prod.mk.injEq] at h; first | exact h | exact h.1 | exact h.2.1 | exact h.2.2.1 | exact h.2.2.2 | exact h.2.2 | exact h.2)))
          have hd1 : (f1 == h1) = false := beq_eq_false_iff_ne.2 c1
          have hd2 : (f1 != h1) = true := bne_iff_ne.2 c1
          clear c1
          go_upto_region 12 with fail
          go_quiet (fail)
          go_wp2
          go_ret
          exact ⟨ret_boolT HP.out.symm, HB.out.trans ⟨rfl, rfl, rfl, Nat.le_refl _, fun _ _ => rfl⟩⟩
        subst c1
        by_cases c2 : f2 = h2
        case neg =>
          have HP := hide_ (HNE.out (fun h => c2 (by simp only [Prod.mk.injEq] at h; first | exact h | exact h.1 | exact h.2.1 | exact h.2.2.1 | exact h.2.2.2 | exact h.2.2 | exact h.2)))
          have hd1 : (f2 == h2) = false := beq_eq_false_iff_ne.2 c2
          have hd2 : (f2 != h2) = true := bne_iff_ne.2 c2
          clear c2
          go_upto_region 12 with fail
          go_quiet (fail)
          go_wp2
          go_ret
          exact ⟨ret_boolT HP.out.symm, HB.out.trans ⟨rfl, rfl, rfl, Nat.le_refl _, fun _ _ => rfl⟩⟩
        subst c2
        by_cases c3 : f3 = h3
        case neg =>
          have HP := hide_ (HNE.out (fun h => c3 (by simp only [Prod.mk.injEq] at h; first | exact h | exact h.1 | exact h.2.1 | exact h.2.2.1 | exact h.2.2.2 | exact h.2.2 | exact h.2)))
          have hd1 : (f3 == h3) = false := beq_eq_false_iff_ne.2 c3
          have hd2 : (f3 != h3) = true := bne_iff_ne.2 c3
          clear c3
          go_upto_region 12 with fail
          go_quiet (fail)
          go_wp2
          go_ret
          exact ⟨ret_boolT HP.out.symm, HB.out.trans ⟨rfl, rfl, rfl, Nat.le_refl _, fun _ _ => rfl⟩⟩
        subst c3
        have HJ2 := hide_ (show ∀ j, j < k + 1 → ol[j]? = ol2[j]? from fun j hj => by
          by_cases h : j = k
          · rw [h, HXX.out, HYY.out]
          · exact HJ.out j (by omega))
        go_upto_region 12 with fail
        go_quiet (fail)
        go_wp2
        go_roundw
        case rel => exact ⟨k + 1, by omega, by go_num, HJ2, HB.out.trans ⟨rfl, rfl, rfl, Nat.le_refl _, fun _ _ => rfl⟩, HXR.out.1, HXR.out.2⟩
        case measure => simp [intOf]; omega
      have hkn : no = k := by omega
      subst hkn
      have HF2 := hide_ (list_ext HNO.out HNO2.out HJ.out)
      have HBW2 := hide_ HB.out
      have HXR2 := hide_ HXR.out
      clear hb HJ HB HXR
      go_wp2
      clear hcx hcy
      go_loopw [143] (fun i wr => ∃ k : Nat, k ≤ nm ∧ i = .int .i64 k ∧ Hid (∀ j, j < k → ml[j]? = ml2[j]?) ∧ Below w.heap.size w wr ∧ Hid (BoxAt wr w.heap.size #[.int .u8 ki, .int .u64 inc, .int .i64 st, .slice vA nv vc, .slice dA nd dc, .slice oA no oc, .int .u64 la, .slice mA nm mc] 31 ∧ BoxAt wr (w.heap.size + 1) #[.int .u8 ki, .int .u64 inc, .int .i64 st, .slice vA2 nv2 vc2, .slice dA2 nd dc2, .slice oA2 no oc2, .int .u64 la, .slice mA2 nm mc2] 31)) (fun i _ => nm - (intOf i).toNat)
      case atStart => exact ⟨0, Nat.zero_le _, rfl, (fun j hj => absurd hj (by omega)), HBW2.out, HXR2.out.1, HXR2.out.2⟩
      case round =>
        obtain ⟨k, hk, rfl, HJ, hb, HXR⟩ := hrel
        have hz : w.heap.size < wr.heap.size := HXR.out.1.lt
        have hz2 : w.heap.size + 1 < wr.heap.size := HXR.out.2.lt
        have hcx := HXR.out.1.cell
        have hcy := HXR.out.2.cell
        have HB := hide_ hb
        by_cases hlt : k < nm
        case pos =>
          obtain ⟨x, hx⟩ : ∃ x, ml[k]? = some x := ⟨_, List.getElem?_eq_getElem (by rw [HNM.out]; exact hlt)⟩
          obtain ⟨y, hy⟩ : ∃ y, ml2[k]? = some y := ⟨_, List.getElem?_eq_getElem (by rw [HNM2.out]; exact hlt)⟩
          obtain ⟨tb, ot, hAe, hab, e0, e1, e2⟩ := (HM1.out _ hb).2.2.1.mrk hx
          obtain ⟨ub, uo, hAe2, hab2, g0, g1, g2⟩ := (HM2.out _ hb).2.2.1.mrk hy
          have hwz : tb < wr.heap.size := by have := hb.size; omega
          have huz : ub < wr.heap.size := by have := hb.size; omega
          subst hAe hAe2
          have HXX := hide_ hx
          have HYY := hide_ hy
          have HNE := hide_ (show x ≠ y → G = false from fun h => no_of HN.out (fun h => show x = y by have h2 := HXX.out; rw [h.2.2.2.2.2.2.2, HYY.out] at h2; injection h2 with h2; exact h2.symm) h)
          clear hx hy hb
          obtain ⟨f0, f1, f2⟩ := x
          obtain ⟨h0, h1, h2⟩ := y
          simp only at e0 e1 e2 g0 g1 g2
          by_cases c0 : f0 = h0
          case neg =>
            have HP := hide_ (HNE.out (fun h => c0 (by simp only [Prod.mk.injEq] at h; first | exact h | exact h.1 | exact h.2.1 | exact h.2.2.1 | exact h.2.2.2 | exact h.2.2 | exact h.2)))
            have hd1 : (f0 == h0) = false := beq_eq_false_iff_ne.2 c0
            have hd2 : (f0 != h0) = true := bne_iff_ne.2 c0
            clear c0
            go_upto_region 18 with fail
            go_quiet (fail)
            go_wp2
            go_ret
            exact ⟨ret_boolT HP.out.symm, HB.out.trans ⟨rfl, rfl, rfl, Nat.le_refl _, fun _ _ => rfl⟩⟩
          subst c0
          by_cases c1 : f1 = h1
          case neg =>
            have HP := hide_ (HNE.out (fun h => c1 (by simp only [Prod.mk.injEq] at h; first | exact h | exact h.1 | exact h.2.1 | exact h.2.2.1 | exact h.2.2.2 | exact h.2.2 | exact h.2)))
            have hd1 : (f1 == h1) = false := beq_eq_false_iff_ne.2 c1
            have hd2 : (f1 != h1) = true := bne_iff_ne.2 c1
            clear c1
            go_upto_region 18 with fail
            go_quiet (fail)
            go_wp2
            go_ret
            exact ⟨ret_boolT HP.out.symm, HB.out.trans ⟨rfl, rfl, rfl, Nat.le_refl _, fun _ _ => rfl⟩⟩
          subst c1
          by_cases c2 : f2 = h2
          case neg =>
            have HP := hide_ (HNE.out (fun h => c2 (by simp only [Prod.mk.injEq] at h; first | exact h | exact h.1 | exact h.2.1 | exact h.2.2.1 | exact h.2.2.2 | exact h.2.2 | exact h.2)))
            have hd1 : (f2 == h2) = false := beq_eq_false_iff_ne.2 c2
            have hd2 : (f2 != h2) = true := bne_iff_ne.2 c2
            clear c2
            go_upto_region 18 with fail
            go_quiet (fail)
            go_wp2
            go_ret
            exact ⟨ret_boolT HP.out.symm, HB.out.trans ⟨rfl, rfl, rfl, Nat.le_refl _, fun _ _ => rfl⟩⟩
          subst c2
          have HJ2 := hide_ (show ∀ j, j < k + 1 → ml[j]? = ml2[j]? from fun j hj => by
            by_cases h : j = k
            · rw [h, HXX.out, HYY.out]
            · exact HJ.out j (by omega))
          go_upto_region 18 with fail
          go_quiet (fail)
          go_wp2
          go_roundw
          case rel => exact ⟨k + 1, by omega, by go_num, HJ2, HB.out.trans ⟨rfl, rfl, rfl, Nat.le_refl _, fun _ _ => rfl⟩, HXR.out.1, HXR.out.2⟩
          case measure => simp [intOf]; omega
        have hkn : nm = k := by omega
        subst hkn
        have HF3 := hide_ (list_ext HNM.out HNM2.out HJ.out)
        have HBW3 := hide_ HB.out
        have HXR3 := hide_ HXR.out
        clear hb HJ HB HXR
        have HP := hide_ (HY2.out HVL.out HF1.out HF2.out HF3.out)
        go_wp2
        go_ret
        exact ⟨ret_boolT HP.out.symm, HBW3.out⟩
end Go.Proofs.YtnkjdijbfnmnhaaGreat
