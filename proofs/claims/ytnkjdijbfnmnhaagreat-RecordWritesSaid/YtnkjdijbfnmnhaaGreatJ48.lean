/-
  Texts of this claim put together: RefMay14.
-/
import Derived.Test.YtnkjdijbfnmnhaaGreatJ47
import Derived.Test.YtnkjdijbfnmnhaaGreatJ36
import Derived.Test.YtnkjdijbfnmnhaaGreatJ41
import Derived.Test.YtnkjdijbfnmnhaaGreatJ27
import Derived.Deep.DeepCutAuto
/-
  The document's May of records.
-/
namespace Go.Proofs.YtnkjdijbfnmnhaaGreat
open Go.RowKit

theorem refNone14_any (c n l : Nat) (w : World) : Calls Tryz.prog 61 #[.agg #[.int .u64 c, .int .u8 n, .int .u32 l]] w fun e w' => e = .returned (.bool (noneB c n l)) ∧ Below w.heap.size w w' := by
  have HW := hide_ (show Below w.heap.size w (w.alloc (.cells #[.int .u64 c, .int .u8 n, .int .u32 l] 49)) from (Below.refl _ _).alloc (Nat.le_refl _) _)
  unfold noneB
  by_cases h0 : c = 0
  · subst h0
    by_cases h1 : n = 0
    · subst h1
      by_cases h2 : l = 0
      · subst h2
        go_enter Tryz.func61, Tryz.ntmps61
        go_wp2
        go_ret
        exact ⟨rfl, HW.out⟩
      · have hd : ((l : Int) == 0) = false := beq_eq_false_iff_ne.2 (by omega)
        rw [decide_eq_false h2]
        clear h2
        go_enter Tryz.func61, Tryz.ntmps61
        go_wp2
        go_ret
        exact ⟨rfl, HW.out⟩
    · have hd : ((n : Int) == 0) = false := beq_eq_false_iff_ne.2 (by omega)
      rw [decide_eq_false h1]
      clear h1
      go_enter Tryz.func61, Tryz.ntmps61
      go_wp2
      go_ret
      exact ⟨rfl, HW.out⟩
  · have hd : ((c : Int) == 0) = false := beq_eq_false_iff_ne.2 (by omega)
    rw [decide_eq_false h0]
    clear h0
    go_enter Tryz.func61, Tryz.ntmps61
    go_wp2
    go_ret
    exact ⟨rfl, HW.out⟩

def slS (p : RecP) : Bool := !noneB p.pc p.pn p.pl || (!noneB p.ac p.an p.al || !decide (p.r = zeroP))
def cfS (p : RecP) : Bool := !decide (p.cf = ((0, [], []) : CfP))
def refT (ki ke fe li : Nat) (S K : Bool) : Bool := (decide (ki ≠ 1) && S) || ((decide (ki ≠ 3) && decide (fe ≠ 0)) || ((decide (ki ≠ 4) && decide (li ≠ 0)) || ((decide (ki ≠ 5) && K) || ((decide (2 < ki) && decide (ke ≠ 0)) || decide (15 < ke)))))
def tailR (p : RecP) : Bool :=
  if p.ki = 1 then !noneB p.pc p.pn p.pl && (!lessB p.pc p.pn p.pl p.ac p.an p.al && (mayG p.r && (decide (p.r.ki = 0) || !noneB p.ac p.an p.al)))
  else if p.ki = 2 then true
  else if p.ki = 3 then decide (p.fe ≠ 0)
  else if p.ki = 4 then decide (p.li ≠ 0)
  else if p.ki = 5 then mayC p.cf.1 p.cf.2.1 p.cf.2.2
  else false
def refR (p : RecP) : Bool := !refT p.ki p.ke p.fe p.li (slS p) (cfS p) && tailR p
theorem less_not {c n l c' n' l' : Nat} (h : lessB c n l c' n' l' = true) : lessB c' n' l' c n l = false := by
  unfold lessB at h ⊢
  by_cases e1 : c = c'
  · subst e1
    by_cases e2 : n = n'
    · subst e2
      simp at h ⊢
      omega
    · have e2' : ¬ n' = n := fun e => e2 e.symm
      simp [e2, e2'] at h ⊢
      omega
  · have e1' : ¬ c' = c := fun e => e1 e.symm
    simp [e1, e1'] at h ⊢
    omega
theorem cmp_less (c n l c' n' l' : Nat) : decide (cmpB c n l c' n' l' ≤ 0) = !lessB c' n' l' c n l := by
  rw [cmpB_less]
  by_cases h : lessB c n l c' n' l' = true
  · rw [if_pos h, less_not h]
    rfl
  · rw [if_neg h]
    by_cases h2 : lessB c' n' l' c n l = true
    · rw [if_pos h2, h2]
      rfl
    · rw [if_neg h2]
      simp at h2
      rw [h2]
      rfl
theorem refR_eq (p : RecP) : refR p = mayR p := by
  obtain ⟨ki, ke, pc, pn, pl, ac, an, al, r, fe, li, C, o, n⟩ := p
  unfold refR mayR tellR tailR slotB refT slS cfS
  rw [recP_eq]
  simp only [cmp_less]
  by_cases k1 : ki = 1
  · subst k1
    simp only [namedP, if_true]
    obtain ⟨qp, hqp⟩ : ∃ q, noneB pc pn pl = q := ⟨_, rfl⟩
    obtain ⟨qa, hqa⟩ : ∃ q, noneB ac an al = q := ⟨_, rfl⟩
    obtain ⟨ql, hql⟩ : ∃ q, lessB pc pn pl ac an al = q := ⟨_, rfl⟩
    obtain ⟨qm, hqm⟩ : ∃ q, mayG r = q := ⟨_, rfl⟩
    obtain ⟨qk, hqk⟩ : ∃ q, decide (r.ki = 0) = q := ⟨_, rfl⟩
    simp only [hqp, hqa, hql, hqm, hqk]
    rw [Bool.eq_iff_iff]
    simp
    constructor
    · rintro ⟨⟨h1, h2, h3, h4⟩, h5, h6, h7, h8⟩
      exact ⟨⟨h1, h2, h3⟩, by omega, h5, h6, h8, h7⟩
    · rintro ⟨⟨h1, h2, h3⟩, h4, h5, h6, h8, h7⟩
      exact ⟨⟨h1, h2, h3, by omega⟩, h5, h6, h7, h8⟩
  by_cases k2 : ki = 2
  · subst k2
    have e := @noneB_true
    simp [namedP, zeroRP]
    rw [Bool.eq_iff_iff]
    simp [e]
    constructor
    · rintro ⟨⟨h1, h2, h3⟩, h4, h5, h6, h7⟩
      exact ⟨⟨h1.1, h1.2.1, h1.2.2, h2.1, h2.2.1, h2.2.2, h3, h4, h5, h6⟩, by omega⟩
    · rintro ⟨⟨a1, a2, a3, a4, a5, a6, a7, a8, a9, a10⟩, a11⟩
      exact ⟨⟨⟨a1, a2, a3⟩, ⟨a4, a5, a6⟩, a7⟩, a8, a9, a10, by omega⟩
  by_cases k3 : ki = 3
  · subst k3
    have e := @noneB_true
    simp [namedP, zeroRP]
    rw [Bool.eq_iff_iff]
    simp [e]
    constructor
    · rintro ⟨⟨⟨h1, h2, h3⟩, h4, h5, h6, h7⟩, h8⟩
      exact ⟨⟨h6, h1.1, h1.2.1, h1.2.2, h2.1, h2.2.1, h2.2.2, h3, h4, h5⟩, by omega⟩
    · rintro ⟨⟨a0, a1, a2, a3, a4, a5, a6, a7, a8, a9⟩, a10⟩
      exact ⟨⟨⟨⟨a1, a2, a3⟩, ⟨a4, a5, a6⟩, a7⟩, a8, a9, a0, by omega⟩, by omega⟩
  by_cases k4 : ki = 4
  · subst k4
    have e := @noneB_true
    simp [namedP, zeroRP]
    rw [Bool.eq_iff_iff]
    simp [e]
    constructor
    · rintro ⟨⟨⟨h1, h2, h3⟩, h4, h5, h6, h7⟩, h8⟩
      exact ⟨⟨h6, h1.1, h1.2.1, h1.2.2, h2.1, h2.2.1, h2.2.2, h3, h4, h5⟩, by omega⟩
    · rintro ⟨⟨a0, a1, a2, a3, a4, a5, a6, a7, a8, a9⟩, a10⟩
      exact ⟨⟨⟨⟨a1, a2, a3⟩, ⟨a4, a5, a6⟩, a7⟩, a8, a9, a0, by omega⟩, by omega⟩
  by_cases k5 : ki = 5
  · subst k5
    have e := @noneB_true
    simp [namedP, zeroRP]
    rw [Bool.eq_iff_iff]
    simp [e]
    intro _
    constructor
    · rintro ⟨⟨h1, h2, h3⟩, h4, h5, h6, h7⟩
      exact ⟨h6, h1.1, h1.2.1, h1.2.2, h2.1, h2.2.1, h2.2.2, h3, h4, h5⟩
    · rintro ⟨a0, a1, a2, a3, a4, a5, a6, a7, a8, a9⟩
      exact ⟨⟨⟨a1, a2, a3⟩, ⟨a4, a5, a6⟩, a7⟩, a8, a9, a0, by omega⟩
  · simp [k1, k2, k3, k4, k5]
theorem refR_no {p : RecP} (h : refT p.ki p.ke p.fe p.li (slS p) (cfS p) = true) : refR p = false := by unfold refR; rw [h]; rfl
theorem refR_on {p : RecP} (h : refT p.ki p.ke p.fe p.li (slS p) (cfS p) = false) : refR p = tailR p := by unfold refR; rw [h]; rfl

set_option maxRecDepth 100000 in
set_option maxHeartbeats 12800000 in
theorem refMayRec1_any (m : RecM) (B : Nat) (w : World) (hm : RecM.good w B m) (hB : B ≤ w.heap.size) (hk : m.ki = 1) : Calls Tryz.prog 21 #[m.v] w fun e w' => e = .returned (.bool (refR m.p)) ∧ Below w.heap.size w w' := by
  have HP := hide_ (fun (u : World) => refNone14_any m.pc m.pn m.pl u)
  have HA := hide_ (fun (u : World) => refNone14_any m.ac m.an m.al u)
  have HRS := hide_ (fun (u : World) (h : Below w.heap.size w u) => refSameG_any m.r zeroM w.heap.size u (reg_stable.below (reg_stable.more hm.2.1 hB) h) (zeroM_ok _ _) h.size)
  have HCS := hide_ (fun (u : World) (h : Below w.heap.size w u) => refCfSame_any m.cf zeroCf w.heap.size u ((hm.2.2.more hB).below h) (zeroCf_ok _ _) h.size)
  have HL := hide_ (fun (u : World) => refLess_any m.pc m.pn m.pl m.ac m.an m.al u)
  have HM := hide_ (fun (u : World) (h : Below w.heap.size w u) => refMay6_any m.r w.heap.size u (reg_stable.below (reg_stable.more hm.2.1 hB) h) h.size)
  have HNO := hide_ (refR_no (p := m.p))
  have HON := hide_ (refR_on (p := m.p))
  have HSS := hide_ (show slS m.p = (!noneB m.pc m.pn m.pl || (!noneB m.ac m.an m.al || !decide (m.r.p = zeroM.p))) from rfl)
  have HKK := hide_ (show cfS m.p = !decide (m.cf.p = zeroCf.p) from rfl)
  have HTL := hide_ (show tailR m.p = (!noneB m.pc m.pn m.pl && (!lessB m.pc m.pn m.pl m.ac m.an m.al && (mayG m.r.p && (decide (m.r.ki = 0) || !noneB m.ac m.an m.al)))) from by unfold tailR; rw [show m.p.ki = 1 from hk]; rfl)
  obtain ⟨RR, hRR⟩ : ∃ q, refR m.p = q := ⟨_, rfl⟩
  rw [hRR]
  rw [hRR] at HNO HON
  obtain ⟨SB, hSB⟩ : ∃ q, slS m.p = q := ⟨_, rfl⟩
  rw [hSB] at HNO HON HSS
  obtain ⟨KB, hKB⟩ : ∃ q, cfS m.p = q := ⟨_, rfl⟩
  rw [hKB] at HNO HON HKK
  obtain ⟨TL, hTL⟩ : ∃ q, tailR m.p = q := ⟨_, rfl⟩
  rw [hTL] at HON HTL
  clear hRR hSB hKB hTL
  have HNO := hide_ (show refT m.ki m.ke m.fe m.li SB KB = true → RR = false from HNO.out)
  have HON := hide_ (show refT m.ki m.ke m.fe m.li SB KB = false → RR = TL from HON.out)
  obtain ⟨qp, hqp⟩ : ∃ q, noneB m.pc m.pn m.pl = q := ⟨_, rfl⟩
  simp only [hqp] at HP HSS HTL
  obtain ⟨qa, hqa⟩ : ∃ q, noneB m.ac m.an m.al = q := ⟨_, rfl⟩
  simp only [hqa] at HA HSS HTL
  obtain ⟨qr, hqr⟩ : ∃ q, decide (m.r.p = zeroM.p) = q := ⟨_, rfl⟩
  simp only [hqr] at HRS HSS
  obtain ⟨qc, hqc⟩ : ∃ q, decide (m.cf.p = zeroCf.p) = q := ⟨_, rfl⟩
  simp only [hqc] at HCS HKK
  obtain ⟨ql, hql⟩ : ∃ q, lessB m.pc m.pn m.pl m.ac m.an m.al = q := ⟨_, rfl⟩
  simp only [hql] at HL HTL
  obtain ⟨qm, hqm⟩ : ∃ q, mayG m.r.p = q := ⟨_, rfl⟩
  simp only [hqm] at HM HTL
  clear hm hqp hqa hqr hqc hql hqm
  obtain ⟨V, hV⟩ : ∃ V, m.v = V := ⟨_, rfl⟩
  rw [hV]
  obtain ⟨ki, ke, pc, pn, pl, ac, an, al, ⟨rk, inc, st, ⟨vA, vc, vl⟩, ⟨dA, dc, dl⟩, ⟨oA, oc, ol⟩, la, ⟨mA, mc, ml⟩⟩, fe, li, ⟨C, ⟨xA, xc, xl⟩, ⟨yA, yc, yl⟩⟩⟩ := m
  have HV := hide_ (show V = .agg #[.int .u8 ki, .int .u8 ke, .int .u64 pc, .int .u8 pn, .int .u32 pl, .int .u64 ac, .int .u8 an, .int .u32 al, .int .u8 rk, .int .u64 inc, .int .i64 st, .slice vA vl.length vc, .slice dA dl.length dc, .slice oA ol.length oc, .int .u64 la, .slice mA ml.length mc, .int .u64 fe, .int .u32 li, .int .u64 C, .slice xA xl.length xc, .slice yA yl.length yc] from hV.symm)
  clear hV
  simp only [RegM.v, Sl.v, CfM.v, cfV, NdM.v, zeroM, zeroCf, List.length_nil] at HP HA HRS HCS HL HM
  simp only at hk HNO HON HTL
  subst hk
  go_enter Tryz.func21, Tryz.ntmps21
  go_upto_region 0 with fail
  refine wp_region_lit ?_
  refine box_whole 54 (by rfl) _ (by rfl) (by rfl) HV.out ?_
  intro W0 HX0 HB0 HZ0
  have hcx := HX0.out.cell
  have hz0 : w.heap.size < W0.heap.size := HX0.out.lt
  go_upto_region 1 with fail
  go_cut [3] (fun x wx => x = .bool SB ∧ Hid (BoxAt wx w.heap.size #[.int .u8 ((1 : Nat) : Int), .int .u8 ke, .int .u64 pc, .int .u8 pn, .int .u32 pl, .int .u64 ac, .int .u8 an, .int .u32 al, .int .u8 rk, .int .u64 inc, .int .i64 st, .slice vA vl.length vc, .slice dA dl.length dc, .slice oA ol.length oc, .int .u64 la, .slice mA ml.length mc, .int .u64 fe, .int .u32 li, .int .u64 C, .slice xA xl.length xc, .slice yA yl.length yc] 54) ∧ Hid (Below w.heap.size w wx))
  case first =>
    go_wp2_with fail
    refine (HP.out _).mono ?_
    rintro en w1 ⟨rfl, hb1⟩
    have HB1 := hide_ (HB0.out.trans (hb1.mono HB0.out.size))
    have HX1 := hide_ (HX0.out.below hb1)
    clear hb1 hcx hz0
    have hcx := HX1.out.cell
    have hz0 : w.heap.size < w1.heap.size := HX1.out.lt
    cases qp with
    | false =>
      go_wp2_with fail
      go_meet
      exact ⟨by rw [HSS.out]; rfl, HX1, HB1⟩
    | true =>
    go_wp2_with fail
    refine (HA.out _).mono ?_
    rintro en w2 ⟨rfl, hb1⟩
    have HB2 := hide_ (HB1.out.trans (hb1.mono HB1.out.size))
    have HX2 := hide_ (HX1.out.below hb1)
    clear hb1 hcx hz0
    have hcx := HX2.out.cell
    have hz0 : w.heap.size < w2.heap.size := HX2.out.lt
    cases qa with
    | false =>
      go_wp2_with fail
      go_meet
      exact ⟨by rw [HSS.out]; rfl, HX2, HB2⟩
    | true =>
    go_wp2_with fail
    refine (HRS.out _ HB2.out).mono ?_
    rintro en w3 ⟨rfl, hb1⟩
    have HB3 := hide_ (HB2.out.trans (hb1.mono HB2.out.size))
    have HX3 := hide_ (HX2.out.below hb1)
    clear hb1 hcx hz0
    have hcx := HX3.out.cell
    have hz0 : w.heap.size < w3.heap.size := HX3.out.lt
    go_wp2_with fail
    go_meet
    exact ⟨by rw [HSS.out]; simp, HX3, HB3⟩
  case rest =>
  obtain ⟨rfl, HX1, HB1⟩ := hcut
  clear hcx hz0 HSS HX0 HB0
  have hcx := HX1.out.cell
  have hz0 : w.heap.size < wc.heap.size := HX1.out.lt
  go_wp2_with fail
  refine (HCS.out _ HB1.out).mono ?_
  rintro en w2 ⟨rfl, hb1⟩
  have HB2 := hide_ (HB1.out.trans (hb1.mono HB1.out.size))
  have HX2 := hide_ (HX1.out.below hb1)
  clear hb1 hcx hz0
  have hcx := HX2.out.cell
  have hz0 : w.heap.size < w2.heap.size := HX2.out.lt
  go_upto_region 3 with fail
  have HKB := hide_ HKK.out.symm
  rw [HKB.out]
  clear HKK HKB
  by_cases cfe : fe = 0
  case neg =>
    have hd : ((fe : Int) != 0) = true := bne_iff_ne.2 (by omega)
    have HCN := hide_ cfe
    clear cfe
    have HF := hide_ (HNO.out (by simp [refT, HCN.out]))
    go_wp2
    go_ret
    exact ⟨by rw [HF.out]; rfl, HB2.out⟩
  subst cfe
  by_cases cli : li = 0
  case neg =>
    have hd : ((li : Int) != 0) = true := bne_iff_ne.2 (by omega)
    have HCN := hide_ cli
    clear cli
    have HF := hide_ (HNO.out (by simp [refT, HCN.out]))
    go_wp2
    go_ret
    exact ⟨by rw [HF.out]; rfl, HB2.out⟩
  subst cli
  cases KB with
  | true =>
    have HF := hide_ (HNO.out (by simp [refT]))
    go_wp2
    go_ret
    exact ⟨by rw [HF.out]; rfl, HB2.out⟩
  | false =>
  by_cases c15 : 15 < ke
  case pos =>
    have hd : decide ((15 : Int) < (ke : Int)) = true := decide_eq_true (by omega)
    have HCN := hide_ c15
    clear c15
    have HF := hide_ (HNO.out (by simp [refT, HCN.out]))
    go_wp2
    go_ret
    exact ⟨by rw [HF.out]; rfl, HB2.out⟩
  have hd15 : decide ((15 : Int) < (ke : Int)) = false := decide_eq_false (by omega)
  have H15 := hide_ c15
  clear c15
  have HF := hide_ (HON.out (by simp [refT, H15.out]))
  rw [HTL.out] at HF
  go_wp2_with fail
  refine (HP.out _).mono ?_
  rintro en w3 ⟨rfl, hb1⟩
  have HB3 := hide_ (HB2.out.trans (hb1.mono HB2.out.size))
  have HX3 := hide_ (HX2.out.below hb1)
  clear hb1 hcx hz0
  have hcx := HX3.out.cell
  have hz0 : w.heap.size < w3.heap.size := HX3.out.lt
  cases qp with
  | true =>
    go_wp2
    go_ret
    exact ⟨by rw [HF.out]; rfl, HB3.out⟩
  | false =>
  go_wp2_with fail
  refine (HL.out _).mono ?_
  rintro en w4 ⟨rfl, hb1⟩
  have HB4 := hide_ (HB3.out.trans (hb1.mono HB3.out.size))
  have HX4 := hide_ (HX3.out.below hb1)
  clear hb1 hcx hz0
  have hcx := HX4.out.cell
  have hz0 : w.heap.size < w4.heap.size := HX4.out.lt
  cases ql with
  | true =>
    go_wp2
    go_ret
    exact ⟨by rw [HF.out]; rfl, HB4.out⟩
  | false =>
  go_wp2_with fail
  refine (HM.out _ HB4.out).mono ?_
  rintro en w5 ⟨rfl, hb1⟩
  have HB5 := hide_ (HB4.out.trans (hb1.mono HB4.out.size))
  have HX5 := hide_ (HX4.out.below hb1)
  clear hb1 hcx hz0
  have hcx := HX5.out.cell
  have hz0 : w.heap.size < w5.heap.size := HX5.out.lt
  cases qm with
  | false =>
    go_wp2
    go_ret
    exact ⟨by rw [HF.out]; rfl, HB5.out⟩
  | true =>
  by_cases c0 : rk = 0
  case pos =>
    subst c0
    go_wp2
    go_ret
    exact ⟨by rw [HF.out]; simp, HB5.out⟩
  have hrk : ((rk == 0) = false) := beq_eq_false_iff_ne.2 c0
  have HRK := hide_ (decide_eq_false c0)
  clear c0
  go_wp2_with fail
  refine (HA.out _).mono ?_
  rintro en w6 ⟨rfl, hb1⟩
  have HB6 := hide_ (HB5.out.trans (hb1.mono HB5.out.size))
  have HX6 := hide_ (HX5.out.below hb1)
  clear hb1 hcx hz0
  have hcx := HX6.out.cell
  have hz0 : w.heap.size < w6.heap.size := HX6.out.lt
  go_wp2
  go_ret
  exact ⟨by rw [HF.out, HRK.out]; simp, HB6.out⟩

set_option maxRecDepth 100000 in
set_option maxHeartbeats 12800000 in
theorem refMayRec2_any (m : RecM) (B : Nat) (w : World) (hm : RecM.good w B m) (hB : B ≤ w.heap.size) (hk : m.ki = 2) : Calls Tryz.prog 21 #[m.v] w fun e w' => e = .returned (.bool (refR m.p)) ∧ Below w.heap.size w w' := by
  have HP := hide_ (fun (u : World) => refNone14_any m.pc m.pn m.pl u)
  have HA := hide_ (fun (u : World) => refNone14_any m.ac m.an m.al u)
  have HRS := hide_ (fun (u : World) (h : Below w.heap.size w u) => refSameG_any m.r zeroM w.heap.size u (reg_stable.below (reg_stable.more hm.2.1 hB) h) (zeroM_ok _ _) h.size)
  have HCS := hide_ (fun (u : World) (h : Below w.heap.size w u) => refCfSame_any m.cf zeroCf w.heap.size u ((hm.2.2.more hB).below h) (zeroCf_ok _ _) h.size)
  have HNO := hide_ (refR_no (p := m.p))
  have HON := hide_ (refR_on (p := m.p))
  have HSS := hide_ (show slS m.p = (!noneB m.pc m.pn m.pl || (!noneB m.ac m.an m.al || !decide (m.r.p = zeroM.p))) from rfl)
  have HKK := hide_ (show cfS m.p = !decide (m.cf.p = zeroCf.p) from rfl)
  have HTL := hide_ (show tailR m.p = (true) from by unfold tailR; rw [show m.p.ki = 2 from hk]; rfl)
  obtain ⟨RR, hRR⟩ : ∃ q, refR m.p = q := ⟨_, rfl⟩
  rw [hRR]
  rw [hRR] at HNO HON
  obtain ⟨SB, hSB⟩ : ∃ q, slS m.p = q := ⟨_, rfl⟩
  rw [hSB] at HNO HON HSS
  obtain ⟨KB, hKB⟩ : ∃ q, cfS m.p = q := ⟨_, rfl⟩
  rw [hKB] at HNO HON HKK
  obtain ⟨TL, hTL⟩ : ∃ q, tailR m.p = q := ⟨_, rfl⟩
  rw [hTL] at HON HTL
  clear hRR hSB hKB hTL
  have HNO := hide_ (show refT m.ki m.ke m.fe m.li SB KB = true → RR = false from HNO.out)
  have HON := hide_ (show refT m.ki m.ke m.fe m.li SB KB = false → RR = TL from HON.out)
  obtain ⟨qp, hqp⟩ : ∃ q, noneB m.pc m.pn m.pl = q := ⟨_, rfl⟩
  simp only [hqp] at HP HSS
  obtain ⟨qa, hqa⟩ : ∃ q, noneB m.ac m.an m.al = q := ⟨_, rfl⟩
  simp only [hqa] at HA HSS
  obtain ⟨qr, hqr⟩ : ∃ q, decide (m.r.p = zeroM.p) = q := ⟨_, rfl⟩
  simp only [hqr] at HRS HSS
  obtain ⟨qc, hqc⟩ : ∃ q, decide (m.cf.p = zeroCf.p) = q := ⟨_, rfl⟩
  simp only [hqc] at HCS HKK
  clear hm hqp hqa hqr hqc
  obtain ⟨V, hV⟩ : ∃ V, m.v = V := ⟨_, rfl⟩
  rw [hV]
  obtain ⟨ki, ke, pc, pn, pl, ac, an, al, ⟨rk, inc, st, ⟨vA, vc, vl⟩, ⟨dA, dc, dl⟩, ⟨oA, oc, ol⟩, la, ⟨mA, mc, ml⟩⟩, fe, li, ⟨C, ⟨xA, xc, xl⟩, ⟨yA, yc, yl⟩⟩⟩ := m
  have HV := hide_ (show V = .agg #[.int .u8 ki, .int .u8 ke, .int .u64 pc, .int .u8 pn, .int .u32 pl, .int .u64 ac, .int .u8 an, .int .u32 al, .int .u8 rk, .int .u64 inc, .int .i64 st, .slice vA vl.length vc, .slice dA dl.length dc, .slice oA ol.length oc, .int .u64 la, .slice mA ml.length mc, .int .u64 fe, .int .u32 li, .int .u64 C, .slice xA xl.length xc, .slice yA yl.length yc] from hV.symm)
  clear hV
  simp only [RegM.v, Sl.v, CfM.v, cfV, NdM.v, zeroM, zeroCf, List.length_nil] at HP HA HRS HCS
  simp only at hk HNO HON HTL
  subst hk
  go_enter Tryz.func21, Tryz.ntmps21
  go_upto_region 0 with fail
  refine wp_region_lit ?_
  refine box_whole 54 (by rfl) _ (by rfl) (by rfl) HV.out ?_
  intro W0 HX0 HB0 HZ0
  have hcx := HX0.out.cell
  have hz0 : w.heap.size < W0.heap.size := HX0.out.lt
  go_upto_region 1 with fail
  go_cut [3] (fun x wx => x = .bool SB ∧ Hid (BoxAt wx w.heap.size #[.int .u8 ((2 : Nat) : Int), .int .u8 ke, .int .u64 pc, .int .u8 pn, .int .u32 pl, .int .u64 ac, .int .u8 an, .int .u32 al, .int .u8 rk, .int .u64 inc, .int .i64 st, .slice vA vl.length vc, .slice dA dl.length dc, .slice oA ol.length oc, .int .u64 la, .slice mA ml.length mc, .int .u64 fe, .int .u32 li, .int .u64 C, .slice xA xl.length xc, .slice yA yl.length yc] 54) ∧ Hid (Below w.heap.size w wx))
  case first =>
    go_wp2_with fail
    refine (HP.out _).mono ?_
    rintro en w1 ⟨rfl, hb1⟩
    have HB1 := hide_ (HB0.out.trans (hb1.mono HB0.out.size))
    have HX1 := hide_ (HX0.out.below hb1)
    clear hb1 hcx hz0
    have hcx := HX1.out.cell
    have hz0 : w.heap.size < w1.heap.size := HX1.out.lt
    cases qp with
    | false =>
      go_wp2_with fail
      go_meet
      exact ⟨by rw [HSS.out]; rfl, HX1, HB1⟩
    | true =>
    go_wp2_with fail
    refine (HA.out _).mono ?_
    rintro en w2 ⟨rfl, hb1⟩
    have HB2 := hide_ (HB1.out.trans (hb1.mono HB1.out.size))
    have HX2 := hide_ (HX1.out.below hb1)
    clear hb1 hcx hz0
    have hcx := HX2.out.cell
    have hz0 : w.heap.size < w2.heap.size := HX2.out.lt
    cases qa with
    | false =>
      go_wp2_with fail
      go_meet
      exact ⟨by rw [HSS.out]; rfl, HX2, HB2⟩
    | true =>
    go_wp2_with fail
    refine (HRS.out _ HB2.out).mono ?_
    rintro en w3 ⟨rfl, hb1⟩
    have HB3 := hide_ (HB2.out.trans (hb1.mono HB2.out.size))
    have HX3 := hide_ (HX2.out.below hb1)
    clear hb1 hcx hz0
    have hcx := HX3.out.cell
    have hz0 : w.heap.size < w3.heap.size := HX3.out.lt
    go_wp2_with fail
    go_meet
    exact ⟨by rw [HSS.out]; simp, HX3, HB3⟩
  case rest =>
  obtain ⟨rfl, HX1, HB1⟩ := hcut
  clear hcx hz0 HSS HX0 HB0
  have hcx := HX1.out.cell
  have hz0 : w.heap.size < wc.heap.size := HX1.out.lt
  go_wp2_with fail
  refine (HCS.out _ HB1.out).mono ?_
  rintro en w2 ⟨rfl, hb1⟩
  have HB2 := hide_ (HB1.out.trans (hb1.mono HB1.out.size))
  have HX2 := hide_ (HX1.out.below hb1)
  clear hb1 hcx hz0
  have hcx := HX2.out.cell
  have hz0 : w.heap.size < w2.heap.size := HX2.out.lt
  go_upto_region 3 with fail
  have HKB := hide_ HKK.out.symm
  rw [HKB.out]
  clear HKK HKB
  cases SB with
  | true =>
    have HF := hide_ (HNO.out (by simp [refT]))
    go_wp2
    go_ret
    exact ⟨by rw [HF.out]; rfl, HB2.out⟩
  | false =>
  by_cases cfe : fe = 0
  case neg =>
    have hd : ((fe : Int) != 0) = true := bne_iff_ne.2 (by omega)
    have HCN := hide_ cfe
    clear cfe
    have HF := hide_ (HNO.out (by simp [refT, HCN.out]))
    go_wp2
    go_ret
    exact ⟨by rw [HF.out]; rfl, HB2.out⟩
  subst cfe
  by_cases cli : li = 0
  case neg =>
    have hd : ((li : Int) != 0) = true := bne_iff_ne.2 (by omega)
    have HCN := hide_ cli
    clear cli
    have HF := hide_ (HNO.out (by simp [refT, HCN.out]))
    go_wp2
    go_ret
    exact ⟨by rw [HF.out]; rfl, HB2.out⟩
  subst cli
  cases KB with
  | true =>
    have HF := hide_ (HNO.out (by simp [refT]))
    go_wp2
    go_ret
    exact ⟨by rw [HF.out]; rfl, HB2.out⟩
  | false =>
  by_cases c15 : 15 < ke
  case pos =>
    have hd : decide ((15 : Int) < (ke : Int)) = true := decide_eq_true (by omega)
    have HCN := hide_ c15
    clear c15
    have HF := hide_ (HNO.out (by simp [refT, HCN.out]))
    go_wp2
    go_ret
    exact ⟨by rw [HF.out]; rfl, HB2.out⟩
  have hd15 : decide ((15 : Int) < (ke : Int)) = false := decide_eq_false (by omega)
  have H15 := hide_ c15
  clear c15
  have HF := hide_ (HON.out (by simp [refT, H15.out]))
  rw [HTL.out] at HF
  go_wp2
  go_ret
  exact ⟨by rw [HF.out]; rfl, HB2.out⟩

set_option maxRecDepth 100000 in
set_option maxHeartbeats 12800000 in
theorem refMayRec3_any (m : RecM) (B : Nat) (w : World) (hm : RecM.good w B m) (hB : B ≤ w.heap.size) (hk : m.ki = 3) : Calls Tryz.prog 21 #[m.v] w fun e w' => e = .returned (.bool (refR m.p)) ∧ Below w.heap.size w w' := by
  have HP := hide_ (fun (u : World) => refNone14_any m.pc m.pn m.pl u)
  have HA := hide_ (fun (u : World) => refNone14_any m.ac m.an m.al u)
  have HRS := hide_ (fun (u : World) (h : Below w.heap.size w u) => refSameG_any m.r zeroM w.heap.size u (reg_stable.below (reg_stable.more hm.2.1 hB) h) (zeroM_ok _ _) h.size)
  have HCS := hide_ (fun (u : World) (h : Below w.heap.size w u) => refCfSame_any m.cf zeroCf w.heap.size u ((hm.2.2.more hB).below h) (zeroCf_ok _ _) h.size)
  have HNO := hide_ (refR_no (p := m.p))
  have HON := hide_ (refR_on (p := m.p))
  have HSS := hide_ (show slS m.p = (!noneB m.pc m.pn m.pl || (!noneB m.ac m.an m.al || !decide (m.r.p = zeroM.p))) from rfl)
  have HKK := hide_ (show cfS m.p = !decide (m.cf.p = zeroCf.p) from rfl)
  have HTL := hide_ (show tailR m.p = (decide (m.fe ≠ 0)) from by unfold tailR; rw [show m.p.ki = 3 from hk]; rfl)
  obtain ⟨RR, hRR⟩ : ∃ q, refR m.p = q := ⟨_, rfl⟩
  rw [hRR]
  rw [hRR] at HNO HON
  obtain ⟨SB, hSB⟩ : ∃ q, slS m.p = q := ⟨_, rfl⟩
  rw [hSB] at HNO HON HSS
  obtain ⟨KB, hKB⟩ : ∃ q, cfS m.p = q := ⟨_, rfl⟩
  rw [hKB] at HNO HON HKK
  obtain ⟨TL, hTL⟩ : ∃ q, tailR m.p = q := ⟨_, rfl⟩
  rw [hTL] at HON HTL
  clear hRR hSB hKB hTL
  have HNO := hide_ (show refT m.ki m.ke m.fe m.li SB KB = true → RR = false from HNO.out)
  have HON := hide_ (show refT m.ki m.ke m.fe m.li SB KB = false → RR = TL from HON.out)
  obtain ⟨qp, hqp⟩ : ∃ q, noneB m.pc m.pn m.pl = q := ⟨_, rfl⟩
  simp only [hqp] at HP HSS
  obtain ⟨qa, hqa⟩ : ∃ q, noneB m.ac m.an m.al = q := ⟨_, rfl⟩
  simp only [hqa] at HA HSS
  obtain ⟨qr, hqr⟩ : ∃ q, decide (m.r.p = zeroM.p) = q := ⟨_, rfl⟩
  simp only [hqr] at HRS HSS
  obtain ⟨qc, hqc⟩ : ∃ q, decide (m.cf.p = zeroCf.p) = q := ⟨_, rfl⟩
  simp only [hqc] at HCS HKK
  clear hm hqp hqa hqr hqc
  obtain ⟨V, hV⟩ : ∃ V, m.v = V := ⟨_, rfl⟩
  rw [hV]
  obtain ⟨ki, ke, pc, pn, pl, ac, an, al, ⟨rk, inc, st, ⟨vA, vc, vl⟩, ⟨dA, dc, dl⟩, ⟨oA, oc, ol⟩, la, ⟨mA, mc, ml⟩⟩, fe, li, ⟨C, ⟨xA, xc, xl⟩, ⟨yA, yc, yl⟩⟩⟩ := m
  have HV := hide_ (show V = .agg #[.int .u8 ki, .int .u8 ke, .int .u64 pc, .int .u8 pn, .int .u32 pl, .int .u64 ac, .int .u8 an, .int .u32 al, .int .u8 rk, .int .u64 inc, .int .i64 st, .slice vA vl.length vc, .slice dA dl.length dc, .slice oA ol.length oc, .int .u64 la, .slice mA ml.length mc, .int .u64 fe, .int .u32 li, .int .u64 C, .slice xA xl.length xc, .slice yA yl.length yc] from hV.symm)
  clear hV
  simp only [RegM.v, Sl.v, CfM.v, cfV, NdM.v, zeroM, zeroCf, List.length_nil] at HP HA HRS HCS
  simp only at hk HNO HON HTL
  subst hk
  go_enter Tryz.func21, Tryz.ntmps21
  go_upto_region 0 with fail
  refine wp_region_lit ?_
  refine box_whole 54 (by rfl) _ (by rfl) (by rfl) HV.out ?_
  intro W0 HX0 HB0 HZ0
  have hcx := HX0.out.cell
  have hz0 : w.heap.size < W0.heap.size := HX0.out.lt
  go_upto_region 1 with fail
  go_cut [3] (fun x wx => x = .bool SB ∧ Hid (BoxAt wx w.heap.size #[.int .u8 ((3 : Nat) : Int), .int .u8 ke, .int .u64 pc, .int .u8 pn, .int .u32 pl, .int .u64 ac, .int .u8 an, .int .u32 al, .int .u8 rk, .int .u64 inc, .int .i64 st, .slice vA vl.length vc, .slice dA dl.length dc, .slice oA ol.length oc, .int .u64 la, .slice mA ml.length mc, .int .u64 fe, .int .u32 li, .int .u64 C, .slice xA xl.length xc, .slice yA yl.length yc] 54) ∧ Hid (Below w.heap.size w wx))
  case first =>
    go_wp2_with fail
    refine (HP.out _).mono ?_
    rintro en w1 ⟨rfl, hb1⟩
    have HB1 := hide_ (HB0.out.trans (hb1.mono HB0.out.size))
    have HX1 := hide_ (HX0.out.below hb1)
    clear hb1 hcx hz0
    have hcx := HX1.out.cell
    have hz0 : w.heap.size < w1.heap.size := HX1.out.lt
    cases qp with
    | false =>
      go_wp2_with fail
      go_meet
      exact ⟨by rw [HSS.out]; rfl, HX1, HB1⟩
    | true =>
    go_wp2_with fail
    refine (HA.out _).mono ?_
    rintro en w2 ⟨rfl, hb1⟩
    have HB2 := hide_ (HB1.out.trans (hb1.mono HB1.out.size))
    have HX2 := hide_ (HX1.out.below hb1)
    clear hb1 hcx hz0
    have hcx := HX2.out.cell
    have hz0 : w.heap.size < w2.heap.size := HX2.out.lt
    cases qa with
    | false =>
      go_wp2_with fail
      go_meet
      exact ⟨by rw [HSS.out]; rfl, HX2, HB2⟩
    | true =>
    go_wp2_with fail
    refine (HRS.out _ HB2.out).mono ?_
    rintro en w3 ⟨rfl, hb1⟩
    have HB3 := hide_ (HB2.out.trans (hb1.mono HB2.out.size))
    have HX3 := hide_ (HX2.out.below hb1)
    clear hb1 hcx hz0
    have hcx := HX3.out.cell
    have hz0 : w.heap.size < w3.heap.size := HX3.out.lt
    go_wp2_with fail
    go_meet
    exact ⟨by rw [HSS.out]; simp, HX3, HB3⟩
  case rest =>
  obtain ⟨rfl, HX1, HB1⟩ := hcut
  clear hcx hz0 HSS HX0 HB0
  have hcx := HX1.out.cell
  have hz0 : w.heap.size < wc.heap.size := HX1.out.lt
  go_wp2_with fail
  refine (HCS.out _ HB1.out).mono ?_
  rintro en w2 ⟨rfl, hb1⟩
  have HB2 := hide_ (HB1.out.trans (hb1.mono HB1.out.size))
  have HX2 := hide_ (HX1.out.below hb1)
  clear hb1 hcx hz0
  have hcx := HX2.out.cell
  have hz0 : w.heap.size < w2.heap.size := HX2.out.lt
  go_upto_region 3 with fail
  have HKB := hide_ HKK.out.symm
  rw [HKB.out]
  clear HKK HKB
  cases SB with
  | true =>
    have HF := hide_ (HNO.out (by simp [refT]))
    go_wp2
    go_ret
    exact ⟨by rw [HF.out]; rfl, HB2.out⟩
  | false =>
  by_cases cli : li = 0
  case neg =>
    have hd : ((li : Int) != 0) = true := bne_iff_ne.2 (by omega)
    have HCN := hide_ cli
    clear cli
    have HF := hide_ (HNO.out (by simp [refT, HCN.out]))
    go_wp2
    go_ret
    exact ⟨by rw [HF.out]; rfl, HB2.out⟩
  subst cli
  cases KB with
  | true =>
    have HF := hide_ (HNO.out (by simp [refT]))
    go_wp2
    go_ret
    exact ⟨by rw [HF.out]; rfl, HB2.out⟩
  | false =>
  by_cases cke : ke = 0
  case neg =>
    have hd : ((ke : Int) != 0) = true := bne_iff_ne.2 (by omega)
    have HCN := hide_ cke
    clear cke
    have HF := hide_ (HNO.out (by simp [refT, HCN.out]))
    go_wp2
    go_ret
    exact ⟨by rw [HF.out]; rfl, HB2.out⟩
  subst cke
  have HF := hide_ (HON.out (by simp [refT]))
  rw [HTL.out] at HF
  by_cases cfe : fe = 0
  case pos =>
    subst cfe
    go_wp2
    go_ret
    exact ⟨by rw [HF.out]; rfl, HB2.out⟩
  have hd : ((fe : Int) != 0) = true := bne_iff_ne.2 (by omega)
  have HD := hide_ (decide_eq_true cfe)
  clear cfe
  go_wp2
  go_ret
  exact ⟨by rw [HF.out, HD.out]; rfl, HB2.out⟩

set_option maxRecDepth 100000 in
set_option maxHeartbeats 12800000 in
theorem refMayRec4_any (m : RecM) (B : Nat) (w : World) (hm : RecM.good w B m) (hB : B ≤ w.heap.size) (hk : m.ki = 4) : Calls Tryz.prog 21 #[m.v] w fun e w' => e = .returned (.bool (refR m.p)) ∧ Below w.heap.size w w' := by
  have HP := hide_ (fun (u : World) => refNone14_any m.pc m.pn m.pl u)
  have HA := hide_ (fun (u : World) => refNone14_any m.ac m.an m.al u)
  have HRS := hide_ (fun (u : World) (h : Below w.heap.size w u) => refSameG_any m.r zeroM w.heap.size u (reg_stable.below (reg_stable.more hm.2.1 hB) h) (zeroM_ok _ _) h.size)
  have HCS := hide_ (fun (u : World) (h : Below w.heap.size w u) => refCfSame_any m.cf zeroCf w.heap.size u ((hm.2.2.more hB).below h) (zeroCf_ok _ _) h.size)
  have HNO := hide_ (refR_no (p := m.p))
  have HON := hide_ (refR_on (p := m.p))
  have HSS := hide_ (show slS m.p = (!noneB m.pc m.pn m.pl || (!noneB m.ac m.an m.al || !decide (m.r.p = zeroM.p))) from rfl)
  have HKK := hide_ (show cfS m.p = !decide (m.cf.p = zeroCf.p) from rfl)
  have HTL := hide_ (show tailR m.p = (decide (m.li ≠ 0)) from by unfold tailR; rw [show m.p.ki = 4 from hk]; rfl)
  obtain ⟨RR, hRR⟩ : ∃ q, refR m.p = q := ⟨_, rfl⟩
  rw [hRR]
  rw [hRR] at HNO HON
  obtain ⟨SB, hSB⟩ : ∃ q, slS m.p = q := ⟨_, rfl⟩
  rw [hSB] at HNO HON HSS
  obtain ⟨KB, hKB⟩ : ∃ q, cfS m.p = q := ⟨_, rfl⟩
  rw [hKB] at HNO HON HKK
  obtain ⟨TL, hTL⟩ : ∃ q, tailR m.p = q := ⟨_, rfl⟩
  rw [hTL] at HON HTL
  clear hRR hSB hKB hTL
  have HNO := hide_ (show refT m.ki m.ke m.fe m.li SB KB = true → RR = false from HNO.out)
  have HON := hide_ (show refT m.ki m.ke m.fe m.li SB KB = false → RR = TL from HON.out)
  obtain ⟨qp, hqp⟩ : ∃ q, noneB m.pc m.pn m.pl = q := ⟨_, rfl⟩
  simp only [hqp] at HP HSS
  obtain ⟨qa, hqa⟩ : ∃ q, noneB m.ac m.an m.al = q := ⟨_, rfl⟩
  simp only [hqa] at HA HSS
  obtain ⟨qr, hqr⟩ : ∃ q, decide (m.r.p = zeroM.p) = q := ⟨_, rfl⟩
  simp only [hqr] at HRS HSS
  obtain ⟨qc, hqc⟩ : ∃ q, decide (m.cf.p = zeroCf.p) = q := ⟨_, rfl⟩
  simp only [hqc] at HCS HKK
  clear hm hqp hqa hqr hqc
  obtain ⟨V, hV⟩ : ∃ V, m.v = V := ⟨_, rfl⟩
  rw [hV]
  obtain ⟨ki, ke, pc, pn, pl, ac, an, al, ⟨rk, inc, st, ⟨vA, vc, vl⟩, ⟨dA, dc, dl⟩, ⟨oA, oc, ol⟩, la, ⟨mA, mc, ml⟩⟩, fe, li, ⟨C, ⟨xA, xc, xl⟩, ⟨yA, yc, yl⟩⟩⟩ := m
  have HV := hide_ (show V = .agg #[.int .u8 ki, .int .u8 ke, .int .u64 pc, .int .u8 pn, .int .u32 pl, .int .u64 ac, .int .u8 an, .int .u32 al, .int .u8 rk, .int .u64 inc, .int .i64 st, .slice vA vl.length vc, .slice dA dl.length dc, .slice oA ol.length oc, .int .u64 la, .slice mA ml.length mc, .int .u64 fe, .int .u32 li, .int .u64 C, .slice xA xl.length xc, .slice yA yl.length yc] from hV.symm)
  clear hV
  simp only [RegM.v, Sl.v, CfM.v, cfV, NdM.v, zeroM, zeroCf, List.length_nil] at HP HA HRS HCS
  simp only at hk HNO HON HTL
  subst hk
  go_enter Tryz.func21, Tryz.ntmps21
  go_upto_region 0 with fail
  refine wp_region_lit ?_
  refine box_whole 54 (by rfl) _ (by rfl) (by rfl) HV.out ?_
  intro W0 HX0 HB0 HZ0
  have hcx := HX0.out.cell
  have hz0 : w.heap.size < W0.heap.size := HX0.out.lt
  go_upto_region 1 with fail
  go_cut [3] (fun x wx => x = .bool SB ∧ Hid (BoxAt wx w.heap.size #[.int .u8 ((4 : Nat) : Int), .int .u8 ke, .int .u64 pc, .int .u8 pn, .int .u32 pl, .int .u64 ac, .int .u8 an, .int .u32 al, .int .u8 rk, .int .u64 inc, .int .i64 st, .slice vA vl.length vc, .slice dA dl.length dc, .slice oA ol.length oc, .int .u64 la, .slice mA ml.length mc, .int .u64 fe, .int .u32 li, .int .u64 C, .slice xA xl.length xc, .slice yA yl.length yc] 54) ∧ Hid (Below w.heap.size w wx))
  case first =>
    go_wp2_with fail
    refine (HP.out _).mono ?_
    rintro en w1 ⟨rfl, hb1⟩
    have HB1 := hide_ (HB0.out.trans (hb1.mono HB0.out.size))
    have HX1 := hide_ (HX0.out.below hb1)
    clear hb1 hcx hz0
    have hcx := HX1.out.cell
    have hz0 : w.heap.size < w1.heap.size := HX1.out.lt
    cases qp with
    | false =>
      go_wp2_with fail
      go_meet
      exact ⟨by rw [HSS.out]; rfl, HX1, HB1⟩
    | true =>
    go_wp2_with fail
    refine (HA.out _).mono ?_
    rintro en w2 ⟨rfl, hb1⟩
    have HB2 := hide_ (HB1.out.trans (hb1.mono HB1.out.size))
    have HX2 := hide_ (HX1.out.below hb1)
    clear hb1 hcx hz0
    have hcx := HX2.out.cell
    have hz0 : w.heap.size < w2.heap.size := HX2.out.lt
    cases qa with
    | false =>
      go_wp2_with fail
      go_meet
      exact ⟨by rw [HSS.out]; rfl, HX2, HB2⟩
    | true =>
    go_wp2_with fail
    refine (HRS.out _ HB2.out).mono ?_
    rintro en w3 ⟨rfl, hb1⟩
    have HB3 := hide_ (HB2.out.trans (hb1.mono HB2.out.size))
    have HX3 := hide_ (HX2.out.below hb1)
    clear hb1 hcx hz0
    have hcx := HX3.out.cell
    have hz0 : w.heap.size < w3.heap.size := HX3.out.lt
    go_wp2_with fail
    go_meet
    exact ⟨by rw [HSS.out]; simp, HX3, HB3⟩
  case rest =>
  obtain ⟨rfl, HX1, HB1⟩ := hcut
  clear hcx hz0 HSS HX0 HB0
  have hcx := HX1.out.cell
  have hz0 : w.heap.size < wc.heap.size := HX1.out.lt
  go_wp2_with fail
  refine (HCS.out _ HB1.out).mono ?_
  rintro en w2 ⟨rfl, hb1⟩
  have HB2 := hide_ (HB1.out.trans (hb1.mono HB1.out.size))
  have HX2 := hide_ (HX1.out.below hb1)
  clear hb1 hcx hz0
  have hcx := HX2.out.cell
  have hz0 : w.heap.size < w2.heap.size := HX2.out.lt
  go_upto_region 3 with fail
  have HKB := hide_ HKK.out.symm
  rw [HKB.out]
  clear HKK HKB
  cases SB with
  | true =>
    have HF := hide_ (HNO.out (by simp [refT]))
    go_wp2
    go_ret
    exact ⟨by rw [HF.out]; rfl, HB2.out⟩
  | false =>
  by_cases cfe : fe = 0
  case neg =>
    have hd : ((fe : Int) != 0) = true := bne_iff_ne.2 (by omega)
    have HCN := hide_ cfe
    clear cfe
    have HF := hide_ (HNO.out (by simp [refT, HCN.out]))
    go_wp2
    go_ret
    exact ⟨by rw [HF.out]; rfl, HB2.out⟩
  subst cfe
  cases KB with
  | true =>
    have HF := hide_ (HNO.out (by simp [refT]))
    go_wp2
    go_ret
    exact ⟨by rw [HF.out]; rfl, HB2.out⟩
  | false =>
  by_cases cke : ke = 0
  case neg =>
    have hd : ((ke : Int) != 0) = true := bne_iff_ne.2 (by omega)
    have HCN := hide_ cke
    clear cke
    have HF := hide_ (HNO.out (by simp [refT, HCN.out]))
    go_wp2
    go_ret
    exact ⟨by rw [HF.out]; rfl, HB2.out⟩
  subst cke
  have HF := hide_ (HON.out (by simp [refT]))
  rw [HTL.out] at HF
  by_cases cli : li = 0
  case pos =>
    subst cli
    go_wp2
    go_ret
    exact ⟨by rw [HF.out]; rfl, HB2.out⟩
  have hd : ((li : Int) != 0) = true := bne_iff_ne.2 (by omega)
  have HD := hide_ (decide_eq_true cli)
  clear cli
  go_wp2
  go_ret
  exact ⟨by rw [HF.out, HD.out]; rfl, HB2.out⟩

set_option maxRecDepth 100000 in
set_option maxHeartbeats 12800000 in
theorem refMayRec5_any (m : RecM) (B : Nat) (w : World) (hm : RecM.good w B m) (hB : B ≤ w.heap.size) (hk : m.ki = 5) : Calls Tryz.prog 21 #[m.v] w fun e w' => e = .returned (.bool (refR m.p)) ∧ Below w.heap.size w w' := by
  have HP := hide_ (fun (u : World) => refNone14_any m.pc m.pn m.pl u)
  have HA := hide_ (fun (u : World) => refNone14_any m.ac m.an m.al u)
  have HRS := hide_ (fun (u : World) (h : Below w.heap.size w u) => refSameG_any m.r zeroM w.heap.size u (reg_stable.below (reg_stable.more hm.2.1 hB) h) (zeroM_ok _ _) h.size)
  have HCS := hide_ (fun (u : World) (h : Below w.heap.size w u) => refCfSame_any m.cf zeroCf w.heap.size u ((hm.2.2.more hB).below h) (zeroCf_ok _ _) h.size)
  have HC := hide_ (fun (u : World) (h : Below w.heap.size w u) => refMay10_any m.cf.C m.cf.o m.cf.n w.heap.size u ((hm.2.2.2.1.more hB).below h) ((hm.2.2.2.2.more hB).below h) h.size)
  have HNO := hide_ (refR_no (p := m.p))
  have HON := hide_ (refR_on (p := m.p))
  have HSS := hide_ (show slS m.p = (!noneB m.pc m.pn m.pl || (!noneB m.ac m.an m.al || !decide (m.r.p = zeroM.p))) from rfl)
  have HKK := hide_ (show cfS m.p = !decide (m.cf.p = zeroCf.p) from rfl)
  have HTL := hide_ (show tailR m.p = (mayC m.cf.C m.cf.o.l m.cf.n.l) from by unfold tailR; rw [show m.p.ki = 5 from hk]; rfl)
  obtain ⟨RR, hRR⟩ : ∃ q, refR m.p = q := ⟨_, rfl⟩
  rw [hRR]
  rw [hRR] at HNO HON
  obtain ⟨SB, hSB⟩ : ∃ q, slS m.p = q := ⟨_, rfl⟩
  rw [hSB] at HNO HON HSS
  obtain ⟨KB, hKB⟩ : ∃ q, cfS m.p = q := ⟨_, rfl⟩
  rw [hKB] at HNO HON HKK
  obtain ⟨TL, hTL⟩ : ∃ q, tailR m.p = q := ⟨_, rfl⟩
  rw [hTL] at HON HTL
  clear hRR hSB hKB hTL
  have HNO := hide_ (show refT m.ki m.ke m.fe m.li SB KB = true → RR = false from HNO.out)
  have HON := hide_ (show refT m.ki m.ke m.fe m.li SB KB = false → RR = TL from HON.out)
  obtain ⟨qp, hqp⟩ : ∃ q, noneB m.pc m.pn m.pl = q := ⟨_, rfl⟩
  simp only [hqp] at HP HSS
  obtain ⟨qa, hqa⟩ : ∃ q, noneB m.ac m.an m.al = q := ⟨_, rfl⟩
  simp only [hqa] at HA HSS
  obtain ⟨qr, hqr⟩ : ∃ q, decide (m.r.p = zeroM.p) = q := ⟨_, rfl⟩
  simp only [hqr] at HRS HSS
  obtain ⟨qc, hqc⟩ : ∃ q, decide (m.cf.p = zeroCf.p) = q := ⟨_, rfl⟩
  simp only [hqc] at HCS HKK
  obtain ⟨qy, hqy⟩ : ∃ q, mayC m.cf.C m.cf.o.l m.cf.n.l = q := ⟨_, rfl⟩
  simp only [hqy] at HC HTL
  clear hm hqp hqa hqr hqc hqy
  obtain ⟨V, hV⟩ : ∃ V, m.v = V := ⟨_, rfl⟩
  rw [hV]
  obtain ⟨ki, ke, pc, pn, pl, ac, an, al, ⟨rk, inc, st, ⟨vA, vc, vl⟩, ⟨dA, dc, dl⟩, ⟨oA, oc, ol⟩, la, ⟨mA, mc, ml⟩⟩, fe, li, ⟨C, ⟨xA, xc, xl⟩, ⟨yA, yc, yl⟩⟩⟩ := m
  have HV := hide_ (show V = .agg #[.int .u8 ki, .int .u8 ke, .int .u64 pc, .int .u8 pn, .int .u32 pl, .int .u64 ac, .int .u8 an, .int .u32 al, .int .u8 rk, .int .u64 inc, .int .i64 st, .slice vA vl.length vc, .slice dA dl.length dc, .slice oA ol.length oc, .int .u64 la, .slice mA ml.length mc, .int .u64 fe, .int .u32 li, .int .u64 C, .slice xA xl.length xc, .slice yA yl.length yc] from hV.symm)
  clear hV
  simp only [RegM.v, Sl.v, CfM.v, cfV, NdM.v, zeroM, zeroCf, List.length_nil] at HP HA HRS HCS HC
  simp only at hk HNO HON HTL
  subst hk
  go_enter Tryz.func21, Tryz.ntmps21
  go_upto_region 0 with fail
  refine wp_region_lit ?_
  refine box_whole 54 (by rfl) _ (by rfl) (by rfl) HV.out ?_
  intro W0 HX0 HB0 HZ0
  have hcx := HX0.out.cell
  have hz0 : w.heap.size < W0.heap.size := HX0.out.lt
  go_upto_region 1 with fail
  go_cut [3] (fun x wx => x = .bool SB ∧ Hid (BoxAt wx w.heap.size #[.int .u8 ((5 : Nat) : Int), .int .u8 ke, .int .u64 pc, .int .u8 pn, .int .u32 pl, .int .u64 ac, .int .u8 an, .int .u32 al, .int .u8 rk, .int .u64 inc, .int .i64 st, .slice vA vl.length vc, .slice dA dl.length dc, .slice oA ol.length oc, .int .u64 la, .slice mA ml.length mc, .int .u64 fe, .int .u32 li, .int .u64 C, .slice xA xl.length xc, .slice yA yl.length yc] 54) ∧ Hid (Below w.heap.size w wx))
  case first =>
    go_wp2_with fail
    refine (HP.out _).mono ?_
    rintro en w1 ⟨rfl, hb1⟩
    have HB1 := hide_ (HB0.out.trans (hb1.mono HB0.out.size))
    have HX1 := hide_ (HX0.out.below hb1)
    clear hb1 hcx hz0
    have hcx := HX1.out.cell
    have hz0 : w.heap.size < w1.heap.size := HX1.out.lt
    cases qp with
    | false =>
      go_wp2_with fail
      go_meet
      exact ⟨by rw [HSS.out]; rfl, HX1, HB1⟩
    | true =>
    go_wp2_with fail
    refine (HA.out _).mono ?_
    rintro en w2 ⟨rfl, hb1⟩
    have HB2 := hide_ (HB1.out.trans (hb1.mono HB1.out.size))
    have HX2 := hide_ (HX1.out.below hb1)
    clear hb1 hcx hz0
    have hcx := HX2.out.cell
    have hz0 : w.heap.size < w2.heap.size := HX2.out.lt
    cases qa with
    | false =>
      go_wp2_with fail
      go_meet
      exact ⟨by rw [HSS.out]; rfl, HX2, HB2⟩
    | true =>
    go_wp2_with fail
    refine (HRS.out _ HB2.out).mono ?_
    rintro en w3 ⟨rfl, hb1⟩
    have HB3 := hide_ (HB2.out.trans (hb1.mono HB2.out.size))
    have HX3 := hide_ (HX2.out.below hb1)
    clear hb1 hcx hz0
    have hcx := HX3.out.cell
    have hz0 : w.heap.size < w3.heap.size := HX3.out.lt
    go_wp2_with fail
    go_meet
    exact ⟨by rw [HSS.out]; simp, HX3, HB3⟩
  case rest =>
  obtain ⟨rfl, HX1, HB1⟩ := hcut
  clear hcx hz0 HSS HX0 HB0
  have hcx := HX1.out.cell
  have hz0 : w.heap.size < wc.heap.size := HX1.out.lt
  go_wp2_with fail
  refine (HCS.out _ HB1.out).mono ?_
  rintro en w2 ⟨rfl, hb1⟩
  have HB2 := hide_ (HB1.out.trans (hb1.mono HB1.out.size))
  have HX2 := hide_ (HX1.out.below hb1)
  clear hb1 hcx hz0
  have hcx := HX2.out.cell
  have hz0 : w.heap.size < w2.heap.size := HX2.out.lt
  go_upto_region 3 with fail
  have HKB := hide_ HKK.out.symm
  rw [HKB.out]
  clear HKK HKB
  cases SB with
  | true =>
    have HF := hide_ (HNO.out (by simp [refT]))
    go_wp2
    go_ret
    exact ⟨by rw [HF.out]; rfl, HB2.out⟩
  | false =>
  by_cases cfe : fe = 0
  case neg =>
    have hd : ((fe : Int) != 0) = true := bne_iff_ne.2 (by omega)
    have HCN := hide_ cfe
    clear cfe
    have HF := hide_ (HNO.out (by simp [refT, HCN.out]))
    go_wp2
    go_ret
    exact ⟨by rw [HF.out]; rfl, HB2.out⟩
  subst cfe
  by_cases cli : li = 0
  case neg =>
    have hd : ((li : Int) != 0) = true := bne_iff_ne.2 (by omega)
    have HCN := hide_ cli
    clear cli
    have HF := hide_ (HNO.out (by simp [refT, HCN.out]))
    go_wp2
    go_ret
    exact ⟨by rw [HF.out]; rfl, HB2.out⟩
  subst cli
  by_cases cke : ke = 0
  case neg =>
    have hd : ((ke : Int) != 0) = true := bne_iff_ne.2 (by omega)
    have HCN := hide_ cke
    clear cke
    have HF := hide_ (HNO.out (by simp [refT, HCN.out]))
    go_wp2
    go_ret
    exact ⟨by rw [HF.out]; rfl, HB2.out⟩
  subst cke
  have HF := hide_ (HON.out (by simp [refT]))
  rw [HTL.out] at HF
  go_wp2_with fail
  refine (HC.out _ HB2.out).mono ?_
  rintro en w3 ⟨rfl, hb3⟩
  have HB3 := hide_ (HB2.out.trans (hb3.mono HB2.out.size))
  clear hb3 hcx hz0
  go_wp2
  go_ret
  exact ⟨by rw [HF.out]; rfl, HB3.out⟩

set_option maxRecDepth 100000 in
set_option maxHeartbeats 12800000 in
theorem refMayRec0_any (m : RecM) (B : Nat) (w : World) (hm : RecM.good w B m) (hB : B ≤ w.heap.size) (hk : m.ki = 0) : Calls Tryz.prog 21 #[m.v] w fun e w' => e = .returned (.bool (refR m.p)) ∧ Below w.heap.size w w' := by
  have HP := hide_ (fun (u : World) => refNone14_any m.pc m.pn m.pl u)
  have HA := hide_ (fun (u : World) => refNone14_any m.ac m.an m.al u)
  have HRS := hide_ (fun (u : World) (h : Below w.heap.size w u) => refSameG_any m.r zeroM w.heap.size u (reg_stable.below (reg_stable.more hm.2.1 hB) h) (zeroM_ok _ _) h.size)
  have HCS := hide_ (fun (u : World) (h : Below w.heap.size w u) => refCfSame_any m.cf zeroCf w.heap.size u ((hm.2.2.more hB).below h) (zeroCf_ok _ _) h.size)
  have HNO := hide_ (refR_no (p := m.p))
  have HON := hide_ (refR_on (p := m.p))
  have HSS := hide_ (show slS m.p = (!noneB m.pc m.pn m.pl || (!noneB m.ac m.an m.al || !decide (m.r.p = zeroM.p))) from rfl)
  have HKK := hide_ (show cfS m.p = !decide (m.cf.p = zeroCf.p) from rfl)
  have HTL := hide_ (show tailR m.p = (false) from by unfold tailR; rw [show m.p.ki = 0 from hk]; rfl)
  obtain ⟨RR, hRR⟩ : ∃ q, refR m.p = q := ⟨_, rfl⟩
  rw [hRR]
  rw [hRR] at HNO HON
  obtain ⟨SB, hSB⟩ : ∃ q, slS m.p = q := ⟨_, rfl⟩
  rw [hSB] at HNO HON HSS
  obtain ⟨KB, hKB⟩ : ∃ q, cfS m.p = q := ⟨_, rfl⟩
  rw [hKB] at HNO HON HKK
  obtain ⟨TL, hTL⟩ : ∃ q, tailR m.p = q := ⟨_, rfl⟩
  rw [hTL] at HON HTL
  clear hRR hSB hKB hTL
  have HNO := hide_ (show refT m.ki m.ke m.fe m.li SB KB = true → RR = false from HNO.out)
  have HON := hide_ (show refT m.ki m.ke m.fe m.li SB KB = false → RR = TL from HON.out)
  obtain ⟨qp, hqp⟩ : ∃ q, noneB m.pc m.pn m.pl = q := ⟨_, rfl⟩
  simp only [hqp] at HP HSS
  obtain ⟨qa, hqa⟩ : ∃ q, noneB m.ac m.an m.al = q := ⟨_, rfl⟩
  simp only [hqa] at HA HSS
  obtain ⟨qr, hqr⟩ : ∃ q, decide (m.r.p = zeroM.p) = q := ⟨_, rfl⟩
  simp only [hqr] at HRS HSS
  obtain ⟨qc, hqc⟩ : ∃ q, decide (m.cf.p = zeroCf.p) = q := ⟨_, rfl⟩
  simp only [hqc] at HCS HKK
  clear hm hqp hqa hqr hqc
  obtain ⟨V, hV⟩ : ∃ V, m.v = V := ⟨_, rfl⟩
  rw [hV]
  obtain ⟨ki, ke, pc, pn, pl, ac, an, al, ⟨rk, inc, st, ⟨vA, vc, vl⟩, ⟨dA, dc, dl⟩, ⟨oA, oc, ol⟩, la, ⟨mA, mc, ml⟩⟩, fe, li, ⟨C, ⟨xA, xc, xl⟩, ⟨yA, yc, yl⟩⟩⟩ := m
  have HV := hide_ (show V = .agg #[.int .u8 ki, .int .u8 ke, .int .u64 pc, .int .u8 pn, .int .u32 pl, .int .u64 ac, .int .u8 an, .int .u32 al, .int .u8 rk, .int .u64 inc, .int .i64 st, .slice vA vl.length vc, .slice dA dl.length dc, .slice oA ol.length oc, .int .u64 la, .slice mA ml.length mc, .int .u64 fe, .int .u32 li, .int .u64 C, .slice xA xl.length xc, .slice yA yl.length yc] from hV.symm)
  clear hV
  simp only [RegM.v, Sl.v, CfM.v, cfV, NdM.v, zeroM, zeroCf, List.length_nil] at HP HA HRS HCS
  simp only at hk HNO HON HTL
  subst hk
  go_enter Tryz.func21, Tryz.ntmps21
  go_upto_region 0 with fail
  refine wp_region_lit ?_
  refine box_whole 54 (by rfl) _ (by rfl) (by rfl) HV.out ?_
  intro W0 HX0 HB0 HZ0
  have hcx := HX0.out.cell
  have hz0 : w.heap.size < W0.heap.size := HX0.out.lt
  go_upto_region 1 with fail
  go_cut [3] (fun x wx => x = .bool SB ∧ Hid (BoxAt wx w.heap.size #[.int .u8 ((0 : Nat) : Int), .int .u8 ke, .int .u64 pc, .int .u8 pn, .int .u32 pl, .int .u64 ac, .int .u8 an, .int .u32 al, .int .u8 rk, .int .u64 inc, .int .i64 st, .slice vA vl.length vc, .slice dA dl.length dc, .slice oA ol.length oc, .int .u64 la, .slice mA ml.length mc, .int .u64 fe, .int .u32 li, .int .u64 C, .slice xA xl.length xc, .slice yA yl.length yc] 54) ∧ Hid (Below w.heap.size w wx))
  case first =>
    go_wp2_with fail
    refine (HP.out _).mono ?_
    rintro en w1 ⟨rfl, hb1⟩
    have HB1 := hide_ (HB0.out.trans (hb1.mono HB0.out.size))
    have HX1 := hide_ (HX0.out.below hb1)
    clear hb1 hcx hz0
    have hcx := HX1.out.cell
    have hz0 : w.heap.size < w1.heap.size := HX1.out.lt
    cases qp with
    | false =>
      go_wp2_with fail
      go_meet
      exact ⟨by rw [HSS.out]; rfl, HX1, HB1⟩
    | true =>
    go_wp2_with fail
    refine (HA.out _).mono ?_
    rintro en w2 ⟨rfl, hb1⟩
    have HB2 := hide_ (HB1.out.trans (hb1.mono HB1.out.size))
    have HX2 := hide_ (HX1.out.below hb1)
    clear hb1 hcx hz0
    have hcx := HX2.out.cell
    have hz0 : w.heap.size < w2.heap.size := HX2.out.lt
    cases qa with
    | false =>
      go_wp2_with fail
      go_meet
      exact ⟨by rw [HSS.out]; rfl, HX2, HB2⟩
    | true =>
    go_wp2_with fail
    refine (HRS.out _ HB2.out).mono ?_
    rintro en w3 ⟨rfl, hb1⟩
    have HB3 := hide_ (HB2.out.trans (hb1.mono HB2.out.size))
    have HX3 := hide_ (HX2.out.below hb1)
    clear hb1 hcx hz0
    have hcx := HX3.out.cell
    have hz0 : w.heap.size < w3.heap.size := HX3.out.lt
    go_wp2_with fail
    go_meet
    exact ⟨by rw [HSS.out]; simp, HX3, HB3⟩
  case rest =>
  obtain ⟨rfl, HX1, HB1⟩ := hcut
  clear hcx hz0 HSS HX0 HB0
  have hcx := HX1.out.cell
  have hz0 : w.heap.size < wc.heap.size := HX1.out.lt
  go_wp2_with fail
  refine (HCS.out _ HB1.out).mono ?_
  rintro en w2 ⟨rfl, hb1⟩
  have HB2 := hide_ (HB1.out.trans (hb1.mono HB1.out.size))
  have HX2 := hide_ (HX1.out.below hb1)
  clear hb1 hcx hz0
  have hcx := HX2.out.cell
  have hz0 : w.heap.size < w2.heap.size := HX2.out.lt
  go_upto_region 3 with fail
  have HKB := hide_ HKK.out.symm
  rw [HKB.out]
  clear HKK HKB
  cases SB with
  | true =>
    have HF := hide_ (HNO.out (by simp [refT]))
    go_wp2
    go_ret
    exact ⟨by rw [HF.out]; rfl, HB2.out⟩
  | false =>
  by_cases cfe : fe = 0
  case neg =>
    have hd : ((fe : Int) != 0) = true := bne_iff_ne.2 (by omega)
    have HCN := hide_ cfe
    clear cfe
    have HF := hide_ (HNO.out (by simp [refT, HCN.out]))
    go_wp2
    go_ret
    exact ⟨by rw [HF.out]; rfl, HB2.out⟩
  subst cfe
  by_cases cli : li = 0
  case neg =>
    have hd : ((li : Int) != 0) = true := bne_iff_ne.2 (by omega)
    have HCN := hide_ cli
    clear cli
    have HF := hide_ (HNO.out (by simp [refT, HCN.out]))
    go_wp2
    go_ret
    exact ⟨by rw [HF.out]; rfl, HB2.out⟩
  subst cli
  cases KB with
  | true =>
    have HF := hide_ (HNO.out (by simp [refT]))
    go_wp2
    go_ret
    exact ⟨by rw [HF.out]; rfl, HB2.out⟩
  | false =>
  by_cases c15 : 15 < ke
  case pos =>
    have hd : decide ((15 : Int) < (ke : Int)) = true := decide_eq_true (by omega)
    have HCN := hide_ c15
    clear c15
    have HF := hide_ (HNO.out (by simp [refT, HCN.out]))
    go_wp2
    go_ret
    exact ⟨by rw [HF.out]; rfl, HB2.out⟩
  have hd15 : decide ((15 : Int) < (ke : Int)) = false := decide_eq_false (by omega)
  have H15 := hide_ c15
  clear c15
  have HF := hide_ (HON.out (by simp [refT, H15.out]))
  rw [HTL.out] at HF
  go_wp2
  go_ret
  exact ⟨by rw [HF.out]; rfl, HB2.out⟩

set_option maxRecDepth 100000 in
set_option maxHeartbeats 12800000 in
theorem refMayRec9_any (m : RecM) (B : Nat) (w : World) (hm : RecM.good w B m) (hB : B ≤ w.heap.size) (hk : 5 < m.ki) : Calls Tryz.prog 21 #[m.v] w fun e w' => e = .returned (.bool (refR m.p)) ∧ Below w.heap.size w w' := by
  have HP := hide_ (fun (u : World) => refNone14_any m.pc m.pn m.pl u)
  have HA := hide_ (fun (u : World) => refNone14_any m.ac m.an m.al u)
  have HRS := hide_ (fun (u : World) (h : Below w.heap.size w u) => refSameG_any m.r zeroM w.heap.size u (reg_stable.below (reg_stable.more hm.2.1 hB) h) (zeroM_ok _ _) h.size)
  have HCS := hide_ (fun (u : World) (h : Below w.heap.size w u) => refCfSame_any m.cf zeroCf w.heap.size u ((hm.2.2.more hB).below h) (zeroCf_ok _ _) h.size)
  have HNO := hide_ (refR_no (p := m.p))
  have HON := hide_ (refR_on (p := m.p))
  have HSS := hide_ (show slS m.p = (!noneB m.pc m.pn m.pl || (!noneB m.ac m.an m.al || !decide (m.r.p = zeroM.p))) from rfl)
  have HKK := hide_ (show cfS m.p = !decide (m.cf.p = zeroCf.p) from rfl)
  have HTL := hide_ (show tailR m.p = (false) from by unfold tailR; rw [if_neg (show ¬ m.p.ki = 1 from by show ¬ m.ki = 1; omega), if_neg (show ¬ m.p.ki = 2 from by show ¬ m.ki = 2; omega), if_neg (show ¬ m.p.ki = 3 from by show ¬ m.ki = 3; omega), if_neg (show ¬ m.p.ki = 4 from by show ¬ m.ki = 4; omega), if_neg (show ¬ m.p.ki = 5 from by show ¬ m.ki = 5; omega)])
  obtain ⟨RR, hRR⟩ : ∃ q, refR m.p = q := ⟨_, rfl⟩
  rw [hRR]
  rw [hRR] at HNO HON
  obtain ⟨SB, hSB⟩ : ∃ q, slS m.p = q := ⟨_, rfl⟩
  rw [hSB] at HNO HON HSS
  obtain ⟨KB, hKB⟩ : ∃ q, cfS m.p = q := ⟨_, rfl⟩
  rw [hKB] at HNO HON HKK
  obtain ⟨TL, hTL⟩ : ∃ q, tailR m.p = q := ⟨_, rfl⟩
  rw [hTL] at HON HTL
  clear hRR hSB hKB hTL
  have HNO := hide_ (show refT m.ki m.ke m.fe m.li SB KB = true → RR = false from HNO.out)
  have HON := hide_ (show refT m.ki m.ke m.fe m.li SB KB = false → RR = TL from HON.out)
  obtain ⟨qp, hqp⟩ : ∃ q, noneB m.pc m.pn m.pl = q := ⟨_, rfl⟩
  simp only [hqp] at HP HSS
  obtain ⟨qa, hqa⟩ : ∃ q, noneB m.ac m.an m.al = q := ⟨_, rfl⟩
  simp only [hqa] at HA HSS
  obtain ⟨qr, hqr⟩ : ∃ q, decide (m.r.p = zeroM.p) = q := ⟨_, rfl⟩
  simp only [hqr] at HRS HSS
  obtain ⟨qc, hqc⟩ : ∃ q, decide (m.cf.p = zeroCf.p) = q := ⟨_, rfl⟩
  simp only [hqc] at HCS HKK
  clear hm hqp hqa hqr hqc
  obtain ⟨V, hV⟩ : ∃ V, m.v = V := ⟨_, rfl⟩
  rw [hV]
  obtain ⟨ki, ke, pc, pn, pl, ac, an, al, ⟨rk, inc, st, ⟨vA, vc, vl⟩, ⟨dA, dc, dl⟩, ⟨oA, oc, ol⟩, la, ⟨mA, mc, ml⟩⟩, fe, li, ⟨C, ⟨xA, xc, xl⟩, ⟨yA, yc, yl⟩⟩⟩ := m
  have HV := hide_ (show V = .agg #[.int .u8 ki, .int .u8 ke, .int .u64 pc, .int .u8 pn, .int .u32 pl, .int .u64 ac, .int .u8 an, .int .u32 al, .int .u8 rk, .int .u64 inc, .int .i64 st, .slice vA vl.length vc, .slice dA dl.length dc, .slice oA ol.length oc, .int .u64 la, .slice mA ml.length mc, .int .u64 fe, .int .u32 li, .int .u64 C, .slice xA xl.length xc, .slice yA yl.length yc] from hV.symm)
  clear hV
  simp only [RegM.v, Sl.v, CfM.v, cfV, NdM.v, zeroM, zeroCf, List.length_nil] at HP HA HRS HCS
  simp only at hk HNO HON HTL
  have d1 : ((ki : Int) == 1) = false := beq_eq_false_iff_ne.2 (by omega)
  have d3 : ((ki : Int) == 3) = false := beq_eq_false_iff_ne.2 (by omega)
  have d4 : ((ki : Int) == 4) = false := beq_eq_false_iff_ne.2 (by omega)
  have d5 : ((ki : Int) == 5) = false := beq_eq_false_iff_ne.2 (by omega)
  have d2 : ((ki : Int) == 2) = false := beq_eq_false_iff_ne.2 (by omega)
  have e1 : ((ki : Int) != 1) = true := bne_iff_ne.2 (by omega)
  have e3 : ((ki : Int) != 3) = true := bne_iff_ne.2 (by omega)
  have e4 : ((ki : Int) != 4) = true := bne_iff_ne.2 (by omega)
  have e5 : ((ki : Int) != 5) = true := bne_iff_ne.2 (by omega)
  have dg : decide ((2 : Int) < (ki : Int)) = true := decide_eq_true (by omega)
  have dg2 : decide (2 < ki) = true := decide_eq_true (by omega)
  have n1 : decide (ki ≠ 1) = true := decide_eq_true (by omega)
  have n3 : decide (ki ≠ 3) = true := decide_eq_true (by omega)
  have n4 : decide (ki ≠ 4) = true := decide_eq_true (by omega)
  have n5 : decide (ki ≠ 5) = true := decide_eq_true (by omega)
  have HKI := hide_ (show decide (2 < ki) = true ∧ decide (ki ≠ 1) = true ∧ decide (ki ≠ 3) = true ∧ decide (ki ≠ 4) = true ∧ decide (ki ≠ 5) = true from ⟨dg2, n1, n3, n4, n5⟩)
  clear hk dg2 n1 n3 n4 n5
  go_enter Tryz.func21, Tryz.ntmps21
  go_upto_region 0 with fail
  refine wp_region_lit ?_
  refine box_whole 54 (by rfl) _ (by rfl) (by rfl) HV.out ?_
  intro W0 HX0 HB0 HZ0
  have hcx := HX0.out.cell
  have hz0 : w.heap.size < W0.heap.size := HX0.out.lt
  go_upto_region 1 with fail
  go_cut [3] (fun x wx => x = .bool SB ∧ Hid (BoxAt wx w.heap.size #[.int .u8 ki, .int .u8 ke, .int .u64 pc, .int .u8 pn, .int .u32 pl, .int .u64 ac, .int .u8 an, .int .u32 al, .int .u8 rk, .int .u64 inc, .int .i64 st, .slice vA vl.length vc, .slice dA dl.length dc, .slice oA ol.length oc, .int .u64 la, .slice mA ml.length mc, .int .u64 fe, .int .u32 li, .int .u64 C, .slice xA xl.length xc, .slice yA yl.length yc] 54) ∧ Hid (Below w.heap.size w wx))
  case first =>
    go_wp2_with fail
    refine (HP.out _).mono ?_
    rintro en w1 ⟨rfl, hb1⟩
    have HB1 := hide_ (HB0.out.trans (hb1.mono HB0.out.size))
    have HX1 := hide_ (HX0.out.below hb1)
    clear hb1 hcx hz0
    have hcx := HX1.out.cell
    have hz0 : w.heap.size < w1.heap.size := HX1.out.lt
    cases qp with
    | false =>
      go_wp2_with fail
      go_meet
      exact ⟨by rw [HSS.out]; rfl, HX1, HB1⟩
    | true =>
    go_wp2_with fail
    refine (HA.out _).mono ?_
    rintro en w2 ⟨rfl, hb1⟩
    have HB2 := hide_ (HB1.out.trans (hb1.mono HB1.out.size))
    have HX2 := hide_ (HX1.out.below hb1)
    clear hb1 hcx hz0
    have hcx := HX2.out.cell
    have hz0 : w.heap.size < w2.heap.size := HX2.out.lt
    cases qa with
    | false =>
      go_wp2_with fail
      go_meet
      exact ⟨by rw [HSS.out]; rfl, HX2, HB2⟩
    | true =>
    go_wp2_with fail
    refine (HRS.out _ HB2.out).mono ?_
    rintro en w3 ⟨rfl, hb1⟩
    have HB3 := hide_ (HB2.out.trans (hb1.mono HB2.out.size))
    have HX3 := hide_ (HX2.out.below hb1)
    clear hb1 hcx hz0
    have hcx := HX3.out.cell
    have hz0 : w.heap.size < w3.heap.size := HX3.out.lt
    go_wp2_with fail
    go_meet
    exact ⟨by rw [HSS.out]; simp, HX3, HB3⟩
  case rest =>
  obtain ⟨rfl, HX1, HB1⟩ := hcut
  clear hcx hz0 HSS HX0 HB0
  have hcx := HX1.out.cell
  have hz0 : w.heap.size < wc.heap.size := HX1.out.lt
  go_wp2_with fail
  refine (HCS.out _ HB1.out).mono ?_
  rintro en w2 ⟨rfl, hb1⟩
  have HB2 := hide_ (HB1.out.trans (hb1.mono HB1.out.size))
  have HX2 := hide_ (HX1.out.below hb1)
  clear hb1 hcx hz0
  have hcx := HX2.out.cell
  have hz0 : w.heap.size < w2.heap.size := HX2.out.lt
  go_upto_region 3 with fail
  have HKB := hide_ HKK.out.symm
  rw [HKB.out]
  clear HKK HKB
  cases SB with
  | true =>
    have HF := hide_ (HNO.out (by simp [refT, HKI.out.1, HKI.out.2.1, HKI.out.2.2.1, HKI.out.2.2.2.1, HKI.out.2.2.2.2]))
    go_wp2
    go_ret
    exact ⟨by rw [HF.out]; rfl, HB2.out⟩
  | false =>
  by_cases cfe : fe = 0
  case neg =>
    have hd : ((fe : Int) != 0) = true := bne_iff_ne.2 (by omega)
    have HCN := hide_ cfe
    clear cfe
    have HF := hide_ (HNO.out (by simp [refT, HCN.out, HKI.out.1, HKI.out.2.1, HKI.out.2.2.1, HKI.out.2.2.2.1, HKI.out.2.2.2.2]))
    go_wp2
    go_ret
    exact ⟨by rw [HF.out]; rfl, HB2.out⟩
  subst cfe
  by_cases cli : li = 0
  case neg =>
    have hd : ((li : Int) != 0) = true := bne_iff_ne.2 (by omega)
    have HCN := hide_ cli
    clear cli
    have HF := hide_ (HNO.out (by simp [refT, HCN.out, HKI.out.1, HKI.out.2.1, HKI.out.2.2.1, HKI.out.2.2.2.1, HKI.out.2.2.2.2]))
    go_wp2
    go_ret
    exact ⟨by rw [HF.out]; rfl, HB2.out⟩
  subst cli
  cases KB with
  | true =>
    have HF := hide_ (HNO.out (by simp [refT, HKI.out.1, HKI.out.2.1, HKI.out.2.2.1, HKI.out.2.2.2.1, HKI.out.2.2.2.2]))
    go_wp2
    go_ret
    exact ⟨by rw [HF.out]; rfl, HB2.out⟩
  | false =>
  by_cases cke : ke = 0
  case neg =>
    have hd : ((ke : Int) != 0) = true := bne_iff_ne.2 (by omega)
    have HCN := hide_ cke
    clear cke
    have HF := hide_ (HNO.out (by simp [refT, HCN.out, HKI.out.1, HKI.out.2.1, HKI.out.2.2.1, HKI.out.2.2.2.1, HKI.out.2.2.2.2]))
    go_wp2
    go_ret
    exact ⟨by rw [HF.out]; rfl, HB2.out⟩
  subst cke
  have HF := hide_ (HON.out (by simp [refT, HKI.out.1, HKI.out.2.1, HKI.out.2.2.1, HKI.out.2.2.2.1, HKI.out.2.2.2.2]))
  rw [HTL.out] at HF
  go_wp2
  go_ret
  exact ⟨by rw [HF.out]; rfl, HB2.out⟩

theorem refMayRec_any (m : RecM) (B : Nat) (w : World) (hm : RecM.good w B m) (hB : B ≤ w.heap.size) : Calls Tryz.prog 21 #[m.v] w fun e w' => e = .returned (.bool (mayR m.p)) ∧ Below w.heap.size w w' := by
  rw [← refR_eq]
  by_cases k0 : m.ki = 0
  · exact refMayRec0_any m B w hm hB k0
  by_cases k1 : m.ki = 1
  · exact refMayRec1_any m B w hm hB k1
  by_cases k2 : m.ki = 2
  · exact refMayRec2_any m B w hm hB k2
  by_cases k3 : m.ki = 3
  · exact refMayRec3_any m B w hm hB k3
  by_cases k4 : m.ki = 4
  · exact refMayRec4_any m B w hm hB k4
  by_cases k5 : m.ki = 5
  · exact refMayRec5_any m B w hm hB k5
  exact refMayRec9_any m B w hm hB (by omega)
end Go.Proofs.YtnkjdijbfnmnhaaGreat
