/-
  The document's May of messages.
-/
import Derived.Test.YtkgnondlcaklnaaGreatJ45
import Derived.Test.YtkgnondlcaklnaaGreatJ44
namespace Go.Proofs.YtkgnondlcaklnaaGreat
open Go.RowKit

theorem refNone_any (c n l : Nat) (w : World) : Calls Tryz.prog 46 #[.agg #[.int .u64 c, .int .u8 n, .int .u32 l]] w fun e w' => e = .returned (.bool (noneB c n l)) ∧ Below w.heap.size w w' := by
  have HW := hide_ (show Below w.heap.size w (w.alloc (.cells #[.int .u64 c, .int .u8 n, .int .u32 l] 49)) from (Below.refl _ _).alloc (Nat.le_refl _) _)
  unfold noneB
  by_cases h0 : c = 0
  · subst h0
    by_cases h1 : n = 0
    · subst h1
      by_cases h2 : l = 0
      · subst h2
        go_enter Tryz.func46, Tryz.ntmps46
        go_wp2
        go_ret
        exact ⟨rfl, HW.out⟩
      · have hd : ((l : Int) == 0) = false := beq_eq_false_iff_ne.2 (by omega)
        rw [decide_eq_false h2]
        clear h2
        go_enter Tryz.func46, Tryz.ntmps46
        go_wp2
        go_ret
        exact ⟨rfl, HW.out⟩
    · have hd : ((n : Int) == 0) = false := beq_eq_false_iff_ne.2 (by omega)
      rw [decide_eq_false h1]
      clear h1
      go_enter Tryz.func46, Tryz.ntmps46
      go_wp2
      go_ret
      exact ⟨rfl, HW.out⟩
  · have hd : ((c : Int) == 0) = false := beq_eq_false_iff_ne.2 (by omega)
    rw [decide_eq_false h0]
    clear h0
    go_enter Tryz.func46, Tryz.ntmps46
    go_wp2
    go_ret
    exact ⟨rfl, HW.out⟩

theorem mayG_zero {r : RegP} (h : r.ki = 0) : mayG r = decide (r = zeroP) := by unfold mayG; rw [if_pos h]

set_option maxRecDepth 100000 in
theorem refZero_any (r : RegM) (B : Nat) (w : World) (hr : RegM.ok w B r) (hB : B ≤ w.heap.size) : Calls Tryz.prog 47 #[r.v] w fun e w' => e = .returned (.bool (decide (r.p = zeroP))) ∧ Below w.heap.size w w' := by
  have hw1 : Below w.heap.size w (w.alloc (.cells r.box 31)) := (Below.refl _ _).alloc (Nat.le_refl _) _
  have HW := hide_ hw1
  have HM := hide_ (refMay6_any r w.heap.size _ (reg_stable.below (reg_stable.more hr hB) hw1) hw1.size)
  by_cases h0 : r.ki = 0
  · rw [mayG_zero (r := r.p) h0] at HM
    obtain ⟨q, hq⟩ : ∃ q, decide (r.p = zeroP) = q := ⟨_, rfl⟩
    rw [hq] at HM ⊢
    clear hq hr hw1
    obtain ⟨ki, inc, st, ⟨vA, vc, vl⟩, ⟨dA, dc, dl⟩, ⟨oA, oc, ol⟩, la, ⟨mA, mc, ml⟩⟩ := r
    simp only at h0
    subst h0
    simp only [RegM.v, RegM.box, Sl.v] at HM HW ⊢
    go_enter Tryz.func47, Tryz.ntmps47
    go_wp2_with fail
    refine HM.out.mono ?_
    rintro en w1 ⟨rfl, hb1⟩
    go_wp2
    go_ret
    exact ⟨rfl, HW.out.trans (hb1.mono HW.out.size)⟩
  · have HE := hide_ (show decide (r.p = zeroP) = false from decide_eq_false fun h => h0 (congrArg RegP.ki h))
    rw [HE.out]
    have hd : (r.ki == 0) = false := beq_eq_false_iff_ne.2 h0
    clear hr hw1 HM HE h0
    obtain ⟨ki, inc, st, ⟨vA, vc, vl⟩, ⟨dA, dc, dl⟩, ⟨oA, oc, ol⟩, la, ⟨mA, mc, ml⟩⟩ := r
    simp only at hd
    simp only [RegM.v, RegM.box, Sl.v] at HW ⊢
    go_enter Tryz.func47, Tryz.ntmps47
    go_wp2
    go_ret
    exact ⟨rfl, HW.out⟩


set_option maxRecDepth 100000 in
set_option maxHeartbeats 3200000 in
theorem refMayMsg_any (m : MsgM) (B : Nat) (w : World) (hm : MsgM.good w B m) (hB : B ≤ w.heap.size) : Calls Tryz.prog 19 #[m.v] w fun e w' => e = .returned (.bool (mayM m.p)) ∧ Below w.heap.size w w' := by
  have hw1 : Below w.heap.size w (w.alloc (.cells m.box 51)) := (Below.refl _ _).alloc (Nat.le_refl _) _
  have HW := hide_ hw1
  have HX := hide_ (BoxAt.new w m.box 51)
  have HN1 := hide_ (fun (u : World) (h : Below w.heap.size w u) => refNone_any m.bc m.bn m.bl u)
  have HNA := hide_ (fun (u : World) (h : Below w.heap.size w u) => refNone_any m.ac m.an m.al u)
  have HNN := hide_ (fun (u : World) (h : Below w.heap.size w u) => refNone_any m.nc m.nn m.nl u)
  have HZ := hide_ (fun (u : World) (h : Below w.heap.size w u) => refZero_any m.r w.heap.size u (reg_stable.below (reg_stable.more hm.2 hB) h) h.size)
  have HM := hide_ (fun (u : World) (h : Below w.heap.size w u) => refMay6_any m.r w.heap.size u (reg_stable.below (reg_stable.more hm.2 hB) h) h.size)
  rw [show mayM m.p = (decide (m.fr < 64) && (decide (m.tt < 64) && (decide (m.ke < 16) && (!noneB m.bc m.bn m.bl && (
    if m.ki = 1 then !m.ok && ((noneB m.ac m.an m.al && decide (m.r.p = zeroP)) && (noneB m.nc m.nn m.nl && decide (m.mx = 0)))
    else if m.ki = 2 then (if m.ok then (decide (m.r.ki = 0) || !noneB m.ac m.an m.al) && (mayG m.r.p && decide (m.mx = 0)) else noneB m.ac m.an m.al && decide (m.r.p = zeroP)) && noneB m.nc m.nn m.nl
    else if m.ki = 3 then !m.ok && (noneB m.ac m.an m.al && (mayG m.r.p && ((noneB m.nc m.nn m.nl || (decide (m.nn = m.bn) && (decide (m.nl = m.bl) && decide (m.bc < m.nc)))) && decide (m.mx = 0))))
    else if m.ki = 4 then (noneB m.ac m.an m.al && decide (m.r.p = zeroP)) && (noneB m.nc m.nn m.nl && (!m.ok || decide (m.mx = 0)))
    else false))))) from rfl]
  obtain ⟨q1, h1⟩ : ∃ q, noneB m.bc m.bn m.bl = q := ⟨_, rfl⟩
  obtain ⟨qa, h2⟩ : ∃ q, noneB m.ac m.an m.al = q := ⟨_, rfl⟩
  obtain ⟨qn, h3⟩ : ∃ q, noneB m.nc m.nn m.nl = q := ⟨_, rfl⟩
  obtain ⟨qz, h4⟩ : ∃ q, decide (m.r.p = zeroP) = q := ⟨_, rfl⟩
  obtain ⟨qm, h5⟩ : ∃ q, mayG m.r.p = q := ⟨_, rfl⟩
  simp only [h1] at HN1 ⊢
  simp only [h2] at HNA ⊢
  simp only [h3] at HNN ⊢
  simp only [h4] at HZ ⊢
  simp only [h5] at HM ⊢
  clear hm h1 h2 h3 h4 h5 hw1
  obtain ⟨ki, fr, tt, ke, co, bc, bn, bl, ok, ac, an, al, ⟨rk, inc, st, ⟨vA, vc, vl⟩, ⟨dA, dc, dl⟩, ⟨oA, oc, ol⟩, la, ⟨mA, mc, ml⟩⟩, nc, nn, nl, mx⟩ := m
  simp only [MsgM.v, MsgM.box, RegM.v, Sl.v] at HN1 HNA HNN HZ HM HW HX ⊢
  obtain ⟨qt, hqt⟩ : ∃ q, (if ki = 1 then !ok && ((qa && qz) && (qn && decide (mx = 0))) else if ki = 2 then (if ok then (decide (rk = 0) || !qa) && (qm && decide (mx = 0)) else qa && qz) && qn else if ki = 3 then !ok && (qa && (qm && ((qn || (decide (nn = bn) && (decide (nl = bl) && decide (bc < nc)))) && decide (mx = 0)))) else if ki = 4 then (qa && qz) && (qn && (!ok || decide (mx = 0))) else false) = q := ⟨_, rfl⟩
  rw [hqt]
  have HQT := hide_ hqt
  clear hqt
  by_cases c_fr : fr < 64
  case neg =>
    have hd : decide ((63 : Int) < (fr : Int)) = true := decide_eq_true (by omega)
    have HE := hide_ (decide_eq_false c_fr)
    go_enter Tryz.func19, Tryz.ntmps19
    go_wp2
    go_ret
    exact ⟨by rw [HE.out]; simp, HW.out⟩
  have d_fr : decide ((63 : Int) < (fr : Int)) = false := decide_eq_false (by omega)
  rw [decide_eq_true c_fr, Bool.true_and]
  by_cases c_tt : tt < 64
  case neg =>
    have hd : decide ((63 : Int) < (tt : Int)) = true := decide_eq_true (by omega)
    have HE := hide_ (decide_eq_false c_tt)
    go_enter Tryz.func19, Tryz.ntmps19
    go_wp2
    go_ret
    exact ⟨by rw [HE.out]; simp, HW.out⟩
  have d_tt : decide ((63 : Int) < (tt : Int)) = false := decide_eq_false (by omega)
  rw [decide_eq_true c_tt, Bool.true_and]
  by_cases c_ke : ke < 16
  case neg =>
    have hd : decide ((15 : Int) < (ke : Int)) = true := decide_eq_true (by omega)
    have HE := hide_ (decide_eq_false c_ke)
    go_enter Tryz.func19, Tryz.ntmps19
    go_wp2
    go_ret
    exact ⟨by rw [HE.out]; simp, HW.out⟩
  have d_ke : decide ((15 : Int) < (ke : Int)) = false := decide_eq_false (by omega)
  rw [decide_eq_true c_ke, Bool.true_and]
  go_enter Tryz.func19, Tryz.ntmps19
  go_wp2_with fail
  refine (HN1.out _ HW.out).mono ?_
  rintro en w1 ⟨rfl, hb1⟩
  have HB1 := hide_ (HW.out.trans (hb1.mono HW.out.size))
  have HX1 := hide_ (HX.out.below hb1)
  clear hb1
  have hz1 : w.heap.size < w1.heap.size := HX1.out.lt
  have hcx := HX1.out.cell
  clear d_fr d_tt d_ke c_fr c_tt c_ke
  cases q1 with
  | true =>
    go_wp2
    go_ret
    exact ⟨by simp, HB1.out⟩
  | false =>
  by_cases k1 : ki = 1
  · subst k1
    cases ok with
    | true =>
      go_wp2
      go_ret
      exact ⟨by rw [← HQT.out]; simp, HB1.out⟩
    | false =>
    go_wp2_with fail
    refine (HNA.out _ HB1.out).mono ?_
    rintro en w2 ⟨rfl, hb2⟩
    have HB2 := hide_ (HB1.out.trans (hb2.mono HB1.out.size))
    have HX2 := hide_ (HX1.out.below hb2)
    clear hb2 hcx hz1
    have hz2 : w.heap.size < w2.heap.size := HX2.out.lt
    have hcx := HX2.out.cell
    cases qa with
    | false =>
      go_wp2
      go_ret
      exact ⟨by rw [← HQT.out]; simp, HB2.out⟩
    | true =>
    go_wp2_with fail
    refine (HNN.out _ HB2.out).mono ?_
    rintro en w3 ⟨rfl, hb3⟩
    have HB3 := hide_ (HB2.out.trans (hb3.mono HB2.out.size))
    have HX3 := hide_ (HX2.out.below hb3)
    clear hb3 hcx hz2
    have hz3 : w.heap.size < w3.heap.size := HX3.out.lt
    have hcx := HX3.out.cell
    cases qn with
    | false =>
      go_wp2
      go_ret
      exact ⟨by rw [← HQT.out]; simp, HB3.out⟩
    | true =>
    go_wp2_with fail
    refine (HZ.out _ HB3.out).mono ?_
    rintro en w4 ⟨rfl, hb4⟩
    have HB4 := hide_ (HB3.out.trans (hb4.mono HB3.out.size))
    have HX4 := hide_ (HX3.out.below hb4)
    clear hb4 hcx hz3
    have hz4 : w.heap.size < w4.heap.size := HX4.out.lt
    have hcx := HX4.out.cell
    cases qz with
    | false =>
      go_wp2
      go_ret
      exact ⟨by rw [← HQT.out]; simp, HB4.out⟩
    | true =>
    by_cases c1 : mx = 0
    · subst c1
      go_wp2
      go_ret
      exact ⟨by rw [← HQT.out]; simp, HB4.out⟩
    · have hd : ((mx : Int) == 0) = false := beq_eq_false_iff_ne.2 (by omega)
      have HE := hide_ (decide_eq_false c1)
      clear c1
      go_wp2
      go_ret
      exact ⟨by rw [← HQT.out, HE.out]; simp, HB4.out⟩
  have k1' : ((ki : Int) == 1) = false := beq_eq_false_iff_ne.2 (by omega)
  by_cases k2 : ki = 2
  · subst k2
    clear k1 k1'
    cases ok with
    | false =>
      go_wp2_with fail
      refine (HNA.out _ HB1.out).mono ?_
      rintro en w2 ⟨rfl, hb2⟩
      have HB2 := hide_ (HB1.out.trans (hb2.mono HB1.out.size))
      have HX2 := hide_ (HX1.out.below hb2)
      clear hb2 hcx hz1
      have hz2 : w.heap.size < w2.heap.size := HX2.out.lt
      have hcx := HX2.out.cell
      cases qa with
      | false =>
        go_wp2
        go_ret
        exact ⟨by rw [← HQT.out]; simp, HB2.out⟩
      | true =>
      go_wp2_with fail
      refine (HNN.out _ HB2.out).mono ?_
      rintro en w3 ⟨rfl, hb3⟩
      have HB3 := hide_ (HB2.out.trans (hb3.mono HB2.out.size))
      have HX3 := hide_ (HX2.out.below hb3)
      clear hb3 hcx hz2
      have hz3 : w.heap.size < w3.heap.size := HX3.out.lt
      have hcx := HX3.out.cell
      cases qn with
      | false =>
        go_wp2
        go_ret
        exact ⟨by rw [← HQT.out]; simp, HB3.out⟩
      | true =>
      go_wp2_with fail
      refine (HZ.out _ HB3.out).mono ?_
      rintro en w4 ⟨rfl, hb4⟩
      have HB4 := hide_ (HB3.out.trans (hb4.mono HB3.out.size))
      clear hb4 hcx hz3
      go_wp2
      go_ret
      exact ⟨by rw [← HQT.out]; simp, HB4.out⟩
    | true =>
      by_cases c1 : mx = 0
      case neg =>
        have hd : ((mx : Int) == 0) = false := beq_eq_false_iff_ne.2 (by omega)
        have HE := hide_ (decide_eq_false c1)
        clear c1
        go_wp2
        go_ret
        exact ⟨by rw [← HQT.out, HE.out]; simp, HB1.out⟩
      subst c1
      go_wp2_with fail
      refine (HNN.out _ HB1.out).mono ?_
      rintro en w2 ⟨rfl, hb2⟩
      have HB2 := hide_ (HB1.out.trans (hb2.mono HB1.out.size))
      have HX2 := hide_ (HX1.out.below hb2)
      clear hb2 hcx hz1
      have hz2 : w.heap.size < w2.heap.size := HX2.out.lt
      have hcx := HX2.out.cell
      cases qn with
      | false =>
        go_wp2
        go_ret
        exact ⟨by rw [← HQT.out]; simp, HB2.out⟩
      | true =>
      go_wp2_with fail
      refine (HM.out _ HB2.out).mono ?_
      rintro en w3 ⟨rfl, hb3⟩
      have HB3 := hide_ (HB2.out.trans (hb3.mono HB2.out.size))
      have HX3 := hide_ (HX2.out.below hb3)
      clear hb3 hcx hz2
      have hz3 : w.heap.size < w3.heap.size := HX3.out.lt
      have hcx := HX3.out.cell
      cases qm with
      | false =>
        go_wp2
        go_ret
        exact ⟨by rw [← HQT.out]; simp, HB3.out⟩
      | true =>
      by_cases c0 : rk = 0
      · subst c0
        go_wp2
        go_ret
        exact ⟨by rw [← HQT.out]; simp, HB3.out⟩
      · have hd0 : (rk == 0) = false := beq_eq_false_iff_ne.2 c0
        have HE := hide_ (decide_eq_false c0)
        clear c0
        go_wp2_with fail
        refine (HNA.out _ HB3.out).mono ?_
        rintro en w4 ⟨rfl, hb4⟩
        have HB4 := hide_ (HB3.out.trans (hb4.mono HB3.out.size))
        clear hb4 hcx hz3
        go_wp2
        go_ret
        exact ⟨by rw [← HQT.out, HE.out]; simp, HB4.out⟩
  have k2' : ((ki : Int) == 2) = false := beq_eq_false_iff_ne.2 (by omega)
  by_cases k3 : ki = 3
  · subst k3
    clear k1 k1' k2 k2'
    have hor : (nn = bn ∧ nl = bl ∧ bc < nc) ∨ nn ≠ bn ∨ (nn = bn ∧ nl ≠ bl) ∨ (nn = bn ∧ nl = bl ∧ ¬ bc < nc) := by omega
    rcases hor with ⟨rfl, rfl, cx⟩ | cx | ⟨rfl, cx⟩ | ⟨rfl, rfl, cx⟩
    case' inl => have hgt : decide ((bc : Int) < (nc : Int)) = true := decide_eq_true (by omega)
    case' inl => have cxx : (bc : Int) < (nc : Int) := by omega
    case' inr.inl => have hgt : ((nn : Int) == bn) = false := beq_eq_false_iff_ne.2 (by omega)
    case' inr.inr.inl => have hgt : ((nl : Int) == bl) = false := beq_eq_false_iff_ne.2 (by omega)
    case' inr.inr.inr => have hgt : decide ((bc : Int) < (nc : Int)) = false := decide_eq_false (by omega)
    case' inr.inr.inr => have cxx : ¬ (bc : Int) < (nc : Int) := by omega
    all_goals
      have CX := hide_ cx
      clear cx
      go_wp2_with fail
      refine (HNN.out _ HB1.out).mono ?_
      rintro en w2 ⟨rfl, hb2⟩
      have HB2 := hide_ (HB1.out.trans (hb2.mono HB1.out.size))
      have HX2 := hide_ (HX1.out.below hb2)
      clear hb2 hcx hz1
      have hz2 : w.heap.size < w2.heap.size := HX2.out.lt
      have hcx := HX2.out.cell
      cases qn with
      | true =>
        cases ok with
        | true =>
          go_wp2
          all_goals first
            | (exfalso; omega)
            | (go_ret; exact ⟨by rw [← HQT.out]; simp [CX.out], HB2.out⟩)
        | false =>
        go_wp2_with fail
        refine (HNA.out _ HB2.out).mono ?_
        rintro en w3 ⟨rfl, hb3⟩
        have HB3 := hide_ (HB2.out.trans (hb3.mono HB2.out.size))
        have HX3 := hide_ (HX2.out.below hb3)
        clear hb3 hcx hz2
        have hz3 : w.heap.size < w3.heap.size := HX3.out.lt
        have hcx := HX3.out.cell
        cases qa with
        | false =>
          go_wp2
          all_goals first
            | (exfalso; omega)
            | (go_ret; exact ⟨by rw [← HQT.out]; simp [CX.out], HB3.out⟩)
        | true =>
        by_cases c1 : mx = 0
        case neg =>
          have hd : ((mx : Int) == 0) = false := beq_eq_false_iff_ne.2 (by omega)
          have HE := hide_ (decide_eq_false c1)
          clear c1
          go_wp2
          all_goals first
            | (exfalso; omega)
            | (go_ret; exact ⟨by rw [← HQT.out, HE.out]; simp, HB3.out⟩)
        subst c1
        go_wp2_with fail
        refine (HM.out _ HB3.out).mono ?_
        rintro en w4 ⟨rfl, hb4⟩
        have HB4 := hide_ (HB3.out.trans (hb4.mono HB3.out.size))
        have HX4 := hide_ (HX3.out.below hb4)
        clear hb4 hcx hz3
        have hz4 : w.heap.size < w4.heap.size := HX4.out.lt
        have hcx := HX4.out.cell
        cases qm with
        | false =>
          go_wp2
          all_goals first
            | (exfalso; omega)
            | (go_ret; exact ⟨by rw [← HQT.out]; simp [CX.out], HB4.out⟩)
        | true =>
        go_wp2
        all_goals first
          | (exfalso; omega)
          | (go_ret; exact ⟨by rw [← HQT.out]; simp [CX.out], HB4.out⟩)
      | false =>
      cases ok with
      | true =>
        go_wp2
        all_goals first
          | (exfalso; omega)
          | (go_ret; exact ⟨by rw [← HQT.out]; simp [CX.out], HB2.out⟩)
      | false =>
      go_wp2_with fail
      refine (HNA.out _ HB2.out).mono ?_
      rintro en w3 ⟨rfl, hb3⟩
      have HB3 := hide_ (HB2.out.trans (hb3.mono HB2.out.size))
      have HX3 := hide_ (HX2.out.below hb3)
      clear hb3 hcx hz2
      have hz3 : w.heap.size < w3.heap.size := HX3.out.lt
      have hcx := HX3.out.cell
      cases qa with
      | false =>
        go_wp2
        all_goals first
          | (exfalso; omega)
          | (go_ret; exact ⟨by rw [← HQT.out]; simp [CX.out], HB3.out⟩)
      | true =>
      by_cases c1 : mx = 0
      case neg =>
        have hd : ((mx : Int) == 0) = false := beq_eq_false_iff_ne.2 (by omega)
        have HE := hide_ (decide_eq_false c1)
        clear c1
        go_wp2
        all_goals first
          | (exfalso; omega)
          | (go_ret; exact ⟨by rw [← HQT.out, HE.out]; simp, HB3.out⟩)
      subst c1
      go_wp2_with fail
      refine (HM.out _ HB3.out).mono ?_
      rintro en w4 ⟨rfl, hb4⟩
      have HB4 := hide_ (HB3.out.trans (hb4.mono HB3.out.size))
      have HX4 := hide_ (HX3.out.below hb4)
      clear hb4 hcx hz3
      have hz4 : w.heap.size < w4.heap.size := HX4.out.lt
      have hcx := HX4.out.cell
      cases qm with
      | false =>
        go_wp2
        all_goals first
          | (exfalso; omega)
          | (go_ret; exact ⟨by rw [← HQT.out]; simp [CX.out], HB4.out⟩)
      | true =>
      go_wp2
      all_goals first
        | (exfalso; omega)
        | (go_ret; exact ⟨by rw [← HQT.out]; simp [CX.out], HB4.out⟩)
  have k3' : ((ki : Int) == 3) = false := beq_eq_false_iff_ne.2 (by omega)
  by_cases k4 : ki = 4
  · subst k4
    clear k1 k1' k2 k2' k3 k3'
    go_wp2_with fail
    refine (HNA.out _ HB1.out).mono ?_
    rintro en w2 ⟨rfl, hb2⟩
    have HB2 := hide_ (HB1.out.trans (hb2.mono HB1.out.size))
    have HX2 := hide_ (HX1.out.below hb2)
    clear hb2 hcx hz1
    have hz2 : w.heap.size < w2.heap.size := HX2.out.lt
    have hcx := HX2.out.cell
    cases qa with
    | false =>
      go_wp2
      go_ret
      exact ⟨by rw [← HQT.out]; simp, HB2.out⟩
    | true =>
    go_wp2_with fail
    refine (HNN.out _ HB2.out).mono ?_
    rintro en w3 ⟨rfl, hb3⟩
    have HB3 := hide_ (HB2.out.trans (hb3.mono HB2.out.size))
    have HX3 := hide_ (HX2.out.below hb3)
    clear hb3 hcx hz2
    have hz3 : w.heap.size < w3.heap.size := HX3.out.lt
    have hcx := HX3.out.cell
    cases qn with
    | false =>
      go_wp2
      go_ret
      exact ⟨by rw [← HQT.out]; simp, HB3.out⟩
    | true =>
    go_wp2_with fail
    refine (HZ.out _ HB3.out).mono ?_
    rintro en w4 ⟨rfl, hb4⟩
    have HB4 := hide_ (HB3.out.trans (hb4.mono HB3.out.size))
    have HX4 := hide_ (HX3.out.below hb4)
    clear hb4 hcx hz3
    have hz4 : w.heap.size < w4.heap.size := HX4.out.lt
    have hcx := HX4.out.cell
    cases qz with
    | false =>
      go_wp2
      go_ret
      exact ⟨by rw [← HQT.out]; simp, HB4.out⟩
    | true =>
    cases ok with
    | false =>
      go_wp2
      go_ret
      exact ⟨by rw [← HQT.out]; simp, HB4.out⟩
    | true =>
    by_cases c1 : mx = 0
    · subst c1
      go_wp2
      go_ret
      exact ⟨by rw [← HQT.out]; simp, HB4.out⟩
    · have hd : ((mx : Int) == 0) = false := beq_eq_false_iff_ne.2 (by omega)
      have HE := hide_ (decide_eq_false c1)
      clear c1
      go_wp2
      go_ret
      exact ⟨by rw [← HQT.out, HE.out]; simp, HB4.out⟩
  have k4' : ((ki : Int) == 4) = false := beq_eq_false_iff_ne.2 (by omega)
  have HKS := hide_ (show qt = false from by rw [← HQT.out]; simp [k1, k2, k3, k4])
  clear k1 k2 k3 k4
  go_wp2
  go_ret
  exact ⟨by rw [HKS.out]; simp, HB1.out⟩
end Go.Proofs.YtkgnondlcaklnaaGreat
