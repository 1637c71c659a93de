/-
  Texts of this claim put together: Right7.
-/
import Derived.Test.YtpiikdinphnjbaaGreatJ31
import Derived.Test.YtpiikdinphnjbaaGreatJ33
import Derived.Test.YtpiikdinphnjbaaGreatJ30
import Derived.Test.YtpiikdinphnjbaaGreatJ16
import Derived.Test.YtpiikdinphnjbaaGreatJ20
/-
  May an operation be done at all? engine's mayApply, the reference's Right.
-/
namespace Go.Proofs.YtpiikdinphnjbaaGreat
open Go.RowKit

def rightB (ts tv : Int) (tl : List RuM) (r : RegP) (o : OpM) (cn : Int) : Bool := !(decide (cn = 0)) && (mayO o && (mayG r && (mayT ts tv tl && (!(decide (r.ki = 1)) || decide ((r.va.length : Int) = tv)))))

theorem refMay7_any (r : RegM) (B : Nat) (w : World) (hr : RegM.ok w B r) (hB : B ≤ w.heap.size) : Calls Tryz.prog 13 #[r.v] w fun e w' => e = .returned (.bool (mayG r.p)) ∧ Below w.heap.size w w' := by
  rw [← refMay_eq (fun m hm => (hr.2.2.2.2.2.2.2 m hm).1.1) hr.1.1.1]
  exact refMayR_any r B w hr hB fun u hu hBu => refLists_any r B u hu hBu

set_option maxRecDepth 100000 in
set_option maxHeartbeats 6400000 in
theorem mayApply_any (ts tv : Int) (t : Sl RuM) (r : RegM) (o : OpM) (cn : Int) (B : Nat) (w : World) (ht : rusOk w B t) (hr : RegM.ok w B r) (hB : B ≤ w.heap.size) :
    Calls Tryz.prog 17 #[tabV ts tv t, r.v, o.v, .int .u64 cn] w fun e w' => e = .returned (.bool (rightB ts tv t.l r.p o cn)) ∧ Below w.heap.size w w' := by
  have HMO := hide_ (fun (u : World) => MayO_any o u)
  have HMR := hide_ (fun (u : World) (hb : Below w.heap.size w u) => mayReg_any r B u (reg_stable.below hr (hb.mono hB)) (Nat.le_trans hB hb.size))
  have HMT := hide_ (fun (u : World) (hb : Below w.heap.size w u) => MayT_any ts tv t B u (rus_stable.below ht (hb.mono hB)) (Nat.le_trans hB hb.size))
  have m1 := sl_len hr.2.1
  obtain ⟨qo, hqo⟩ : ∃ q, mayO o = q := ⟨_, rfl⟩
  obtain ⟨qr, hqr⟩ : ∃ q, mayG r.p = q := ⟨_, rfl⟩
  obtain ⟨qt, hqt⟩ : ∃ q, mayT ts tv t.l = q := ⟨_, rfl⟩
  simp only [hqo] at HMO
  simp only [hqr] at HMR
  simp only [hqt] at HMT
  obtain ⟨G, hG⟩ : ∃ G, rightB ts tv t.l r.p o cn = G := ⟨_, rfl⟩
  have HG := hide_ (show G = (!(decide (cn = 0)) && (qo && (qr && (qt && (!(decide (r.ki = 1)) || decide ((r.va.l.length : Int) = tv)))))) by rw [← hG, ← hqo, ← hqr, ← hqt]; rfl)
  rw [hG]
  clear hG hqo hqr hqt ht hr
  obtain ⟨tA, tc, tl⟩ := t
  obtain ⟨ki, inc, st, ⟨vA, vc, vl⟩, ⟨dA, dc, dl⟩, ⟨oA, oc, ol⟩, la, ⟨mA, mc, ml⟩⟩ := r
  obtain ⟨nv, hnv⟩ : ∃ n, vl.length = n := ⟨_, rfl⟩
  simp only [tabV, RegM.v, OpM.v, Sl.v, hnv] at HMO HMR HMT HG m1 ⊢
  obtain ⟨W0, hW0⟩ : ∃ W0, ((w.alloc (.cells #[.int .i64 ts, .int .i64 tv, .slice tA tl.length tc] 24)).alloc (.cells #[.int .u8 ki, .int .u64 inc, .int .i64 st, .slice vA nv vc, .slice dA dl.length dc, .slice oA ol.length oc, .int .u64 la, .slice mA ml.length mc] 31)).alloc (.cells #[.int .u8 o.ki, .int .u8 o.ke, .int .u8 o.cl, .int .u64 o.sq, .int .i64 o.ac, .int .i64 o.pa, .int .i64 o.ar, .int .u8 o.so, .int .u64 o.inc, .int .u64 o.ce] 33) = W0 := ⟨_, rfl⟩
  have HXT := hide_ (show BoxAt W0 w.heap.size #[.int .i64 ts, .int .i64 tv, .slice tA tl.length tc] 24 from hW0 ▸ ((BoxAt.new w #[.int .i64 ts, .int .i64 tv, .slice tA tl.length tc] 24).alloc _).alloc _)
  have HXR := hide_ (show BoxAt W0 (w.heap.size + 1) #[.int .u8 ki, .int .u64 inc, .int .i64 st, .slice vA nv vc, .slice dA dl.length dc, .slice oA ol.length oc, .int .u64 la, .slice mA ml.length mc] 31 from by
    have h := (BoxAt.new (w.alloc (.cells #[.int .i64 ts, .int .i64 tv, .slice tA tl.length tc] 24)) #[.int .u8 ki, .int .u64 inc, .int .i64 st, .slice vA nv vc, .slice dA dl.length dc, .slice oA ol.length oc, .int .u64 la, .slice mA ml.length mc] 31).alloc (.cells #[.int .u8 o.ki, .int .u8 o.ke, .int .u8 o.cl, .int .u64 o.sq, .int .i64 o.ac, .int .i64 o.pa, .int .i64 o.ar, .int .u8 o.so, .int .u64 o.inc, .int .u64 o.ce] 33)
    rw [hW0] at h
    simpa using h)
  have HXO := hide_ (show BoxAt W0 (w.heap.size + 1 + 1) #[.int .u8 o.ki, .int .u8 o.ke, .int .u8 o.cl, .int .u64 o.sq, .int .i64 o.ac, .int .i64 o.pa, .int .i64 o.ar, .int .u8 o.so, .int .u64 o.inc, .int .u64 o.ce] 33 from by
    have h := BoxAt.new ((w.alloc (.cells #[.int .i64 ts, .int .i64 tv, .slice tA tl.length tc] 24)).alloc (.cells #[.int .u8 ki, .int .u64 inc, .int .i64 st, .slice vA nv vc, .slice dA dl.length dc, .slice oA ol.length oc, .int .u64 la, .slice mA ml.length mc] 31)) #[.int .u8 o.ki, .int .u8 o.ke, .int .u8 o.cl, .int .u64 o.sq, .int .i64 o.ac, .int .i64 o.pa, .int .i64 o.ar, .int .u8 o.so, .int .u64 o.inc, .int .u64 o.ce] 33
    rw [hW0] at h
    simpa using h)
  have HB0 := hide_ (show Below w.heap.size w W0 from hW0 ▸ (((Below.refl _ _).alloc (Nat.le_refl _) _).alloc (by simp) _).alloc (by simp; omega) _)
  have HW0 := hide_ hW0
  clear hW0 hnv
  by_cases qc : cn = 0
  case pos =>
    have HP := hide_ (show G = false by rw [HG.out]; simp [qc])
    have d1 : (cn != 0) = false := by simp [qc]
    have d2 : (cn == 0) = true := by simp [qc]
    clear qc
    go_enter Tryz.func17, Tryz.ntmps17
    go_wp2
    rw [HW0.out]
    go_ret
    exact ⟨ret_boolT HP.out.symm, HB0.out⟩
  have d1 : (cn != 0) = true := bne_iff_ne.2 qc
  have d2 : (cn == 0) = false := beq_eq_false_iff_ne.2 qc
  have HQC := hide_ qc
  clear qc
  go_enter Tryz.func17, Tryz.ntmps17
  go_wp2_with fail
  rw [HW0.out]
  refine (HMO.out _).mono ?_
  rintro e1 w1 ⟨rfl, hb1⟩
  have HB1 := hide_ (HB0.out.trans (hb1.mono HB0.out.size))
  have HS1 := hide_ (show Below W0.heap.size W0 w1 from hb1)
  clear hb1
  have ht1 := (HXT.out.below HS1.out).cell
  have hr1 := (HXR.out.below HS1.out).cell
  have ho1 := (HXO.out.below HS1.out).cell
  have zt1 := (HXT.out.below HS1.out).lt
  have zr1 := (HXR.out.below HS1.out).lt
  have zo1 := (HXO.out.below HS1.out).lt
  cases qo with
  | false =>
    have HP := hide_ (show G = false by rw [HG.out]; simp)
    go_wp2
    go_ret
    exact ⟨ret_boolT HP.out.symm, HB1.out⟩
  | true =>
  go_wp2_with fail
  refine (HMR.out _ HB1.out).mono ?_
  rintro e2 w2 ⟨rfl, hb2⟩
  have HB2 := hide_ (HB1.out.trans (hb2.mono HB1.out.size))
  have HS2 := hide_ (show Below W0.heap.size W0 w2 from HS1.out.trans (hb2.mono HS1.out.size))
  clear hb2
  have ht2 := (HXT.out.below HS2.out).cell
  have hr2 := (HXR.out.below HS2.out).cell
  have ho2 := (HXO.out.below HS2.out).cell
  have zt2 := (HXT.out.below HS2.out).lt
  have zr2 := (HXR.out.below HS2.out).lt
  have zo2 := (HXO.out.below HS2.out).lt
  clear ht1 hr1 ho1 zt1 zr1 zo1
  cases qr with
  | false =>
    have HP := hide_ (show G = false by rw [HG.out]; simp)
    go_wp2
    go_ret
    exact ⟨ret_boolT HP.out.symm, HB2.out⟩
  | true =>
  go_wp2_with fail
  refine (HMT.out _ HB2.out).mono ?_
  rintro e3 w3 ⟨rfl, hb3⟩
  have HB3 := hide_ (HB2.out.trans (hb3.mono HB2.out.size))
  have HS3 := hide_ (show Below W0.heap.size W0 w3 from HS2.out.trans (hb3.mono HS2.out.size))
  clear hb3
  have ht3 := (HXT.out.below HS3.out).cell
  have hr3 := (HXR.out.below HS3.out).cell
  have ho3 := (HXO.out.below HS3.out).cell
  have zt3 := (HXT.out.below HS3.out).lt
  have zr3 := (HXR.out.below HS3.out).lt
  have zo3 := (HXO.out.below HS3.out).lt
  clear ht2 hr2 ho2 zt2 zr2 zo2
  cases qt with
  | false =>
    have HP := hide_ (show G = false by rw [HG.out]; simp)
    go_wp2
    go_ret
    exact ⟨ret_boolT HP.out.symm, HB3.out⟩
  | true =>
  by_cases k1 : ki = 1
  case neg =>
    have HP := hide_ (show G = true by rw [HG.out]; simp [k1, HQC.out])
    have d5 : (ki != 1) = true := bne_iff_ne.2 k1
    clear k1
    go_wp2
    go_ret
    exact ⟨ret_boolT HP.out.symm, HB3.out⟩
  subst k1
  by_cases k2 : (nv : Int) = tv
  case pos =>
    have HP := hide_ (show G = true by rw [HG.out]; simp [k2, HQC.out])
    have d6 : ((nv : Int) == tv) = true := beq_iff_eq.2 k2
    clear k2
    go_wp2
    go_ret
    exact ⟨ret_boolT HP.out.symm, HB3.out⟩
  have HP := hide_ (show G = false by rw [HG.out]; simp [k2])
  have d6 : ((nv : Int) == tv) = false := beq_eq_false_iff_ne.2 k2
  clear k2
  go_wp2
  go_ret
  exact ⟨ret_boolT HP.out.symm, HB3.out⟩

set_option maxRecDepth 100000 in
set_option maxHeartbeats 6400000 in
theorem refRight_any (ts tv : Int) (t : Sl RuM) (r : RegM) (o : OpM) (cn : Int) (B : Nat) (w : World) (ht : rusOk w B t) (hr : RegM.ok w B r) (ho : OpM.ok o) (hB : B ≤ w.heap.size) :
    Calls Tryz.prog 9 #[tabV ts tv t, r.v, o.v, .int .u64 cn] w fun e w' => e = .returned (.bool (rightB ts tv t.l r.p o cn)) ∧ Below w.heap.size w w' := by
  have HMO := hide_ (fun (u : World) => refMayO_any o u ho)
  have HMR := hide_ (fun (u : World) (hb : Below w.heap.size w u) => refMay7_any r B u (reg_stable.below hr (hb.mono hB)) (Nat.le_trans hB hb.size))
  have HMT := hide_ (fun (u : World) (hb : Below w.heap.size w u) => refMayT_any ts tv t B u (rus_stable.below ht (hb.mono hB)) (Nat.le_trans hB hb.size))
  have m1 := sl_len hr.2.1
  obtain ⟨qo, hqo⟩ : ∃ q, mayO o = q := ⟨_, rfl⟩
  obtain ⟨qr, hqr⟩ : ∃ q, mayG r.p = q := ⟨_, rfl⟩
  obtain ⟨qt, hqt⟩ : ∃ q, mayT ts tv t.l = q := ⟨_, rfl⟩
  simp only [hqo] at HMO
  simp only [hqr] at HMR
  simp only [hqt] at HMT
  obtain ⟨G, hG⟩ : ∃ G, rightB ts tv t.l r.p o cn = G := ⟨_, rfl⟩
  have HG := hide_ (show G = (!(decide (cn = 0)) && (qo && (qr && (qt && (!(decide (r.ki = 1)) || decide ((r.va.l.length : Int) = tv)))))) by rw [← hG, ← hqo, ← hqr, ← hqt]; rfl)
  rw [hG]
  clear hG hqo hqr hqt ht hr ho
  obtain ⟨tA, tc, tl⟩ := t
  obtain ⟨ki, inc, st, ⟨vA, vc, vl⟩, ⟨dA, dc, dl⟩, ⟨oA, oc, ol⟩, la, ⟨mA, mc, ml⟩⟩ := r
  obtain ⟨nv, hnv⟩ : ∃ n, vl.length = n := ⟨_, rfl⟩
  simp only [tabV, RegM.v, OpM.v, Sl.v, hnv] at HMO HMR HMT HG m1 ⊢
  obtain ⟨W0, hW0⟩ : ∃ W0, ((w.alloc (.cells #[.int .i64 ts, .int .i64 tv, .slice tA tl.length tc] 24)).alloc (.cells #[.int .u8 ki, .int .u64 inc, .int .i64 st, .slice vA nv vc, .slice dA dl.length dc, .slice oA ol.length oc, .int .u64 la, .slice mA ml.length mc] 31)).alloc (.cells #[.int .u8 o.ki, .int .u8 o.ke, .int .u8 o.cl, .int .u64 o.sq, .int .i64 o.ac, .int .i64 o.pa, .int .i64 o.ar, .int .u8 o.so, .int .u64 o.inc, .int .u64 o.ce] 33) = W0 := ⟨_, rfl⟩
  have HXT := hide_ (show BoxAt W0 w.heap.size #[.int .i64 ts, .int .i64 tv, .slice tA tl.length tc] 24 from hW0 ▸ ((BoxAt.new w #[.int .i64 ts, .int .i64 tv, .slice tA tl.length tc] 24).alloc _).alloc _)
  have HXR := hide_ (show BoxAt W0 (w.heap.size + 1) #[.int .u8 ki, .int .u64 inc, .int .i64 st, .slice vA nv vc, .slice dA dl.length dc, .slice oA ol.length oc, .int .u64 la, .slice mA ml.length mc] 31 from by
    have h := (BoxAt.new (w.alloc (.cells #[.int .i64 ts, .int .i64 tv, .slice tA tl.length tc] 24)) #[.int .u8 ki, .int .u64 inc, .int .i64 st, .slice vA nv vc, .slice dA dl.length dc, .slice oA ol.length oc, .int .u64 la, .slice mA ml.length mc] 31).alloc (.cells #[.int .u8 o.ki, .int .u8 o.ke, .int .u8 o.cl, .int .u64 o.sq, .int .i64 o.ac, .int .i64 o.pa, .int .i64 o.ar, .int .u8 o.so, .int .u64 o.inc, .int .u64 o.ce] 33)
    rw [hW0] at h
    simpa using h)
  have HXO := hide_ (show BoxAt W0 (w.heap.size + 1 + 1) #[.int .u8 o.ki, .int .u8 o.ke, .int .u8 o.cl, .int .u64 o.sq, .int .i64 o.ac, .int .i64 o.pa, .int .i64 o.ar, .int .u8 o.so, .int .u64 o.inc, .int .u64 o.ce] 33 from by
    have h := BoxAt.new ((w.alloc (.cells #[.int .i64 ts, .int .i64 tv, .slice tA tl.length tc] 24)).alloc (.cells #[.int .u8 ki, .int .u64 inc, .int .i64 st, .slice vA nv vc, .slice dA dl.length dc, .slice oA ol.length oc, .int .u64 la, .slice mA ml.length mc] 31)) #[.int .u8 o.ki, .int .u8 o.ke, .int .u8 o.cl, .int .u64 o.sq, .int .i64 o.ac, .int .i64 o.pa, .int .i64 o.ar, .int .u8 o.so, .int .u64 o.inc, .int .u64 o.ce] 33
    rw [hW0] at h
    simpa using h)
  have HB0 := hide_ (show Below w.heap.size w W0 from hW0 ▸ (((Below.refl _ _).alloc (Nat.le_refl _) _).alloc (by simp) _).alloc (by simp; omega) _)
  have HW0 := hide_ hW0
  clear hW0 hnv
  go_enter Tryz.func9, Tryz.ntmps9
  go_wp2_with fail
  rw [HW0.out]
  refine (HMO.out _).mono ?_
  rintro e1 w1 ⟨rfl, hb1⟩
  have HB1 := hide_ (HB0.out.trans (hb1.mono HB0.out.size))
  have HS1 := hide_ (show Below W0.heap.size W0 w1 from hb1)
  clear hb1
  have ht1 := (HXT.out.below HS1.out).cell
  have hr1 := (HXR.out.below HS1.out).cell
  have ho1 := (HXO.out.below HS1.out).cell
  have zt1 := (HXT.out.below HS1.out).lt
  have zr1 := (HXR.out.below HS1.out).lt
  have zo1 := (HXO.out.below HS1.out).lt
  cases qo with
  | false =>
    have HP := hide_ (show G = false by rw [HG.out]; simp)
    go_wp2
    go_ret
    exact ⟨ret_boolT HP.out.symm, HB1.out⟩
  | true =>
  go_wp2_with fail
  refine (HMR.out _ HB1.out).mono ?_
  rintro e2 w2 ⟨rfl, hb2⟩
  have HB2 := hide_ (HB1.out.trans (hb2.mono HB1.out.size))
  have HS2 := hide_ (show Below W0.heap.size W0 w2 from HS1.out.trans (hb2.mono HS1.out.size))
  clear hb2
  have ht2 := (HXT.out.below HS2.out).cell
  have hr2 := (HXR.out.below HS2.out).cell
  have ho2 := (HXO.out.below HS2.out).cell
  have zt2 := (HXT.out.below HS2.out).lt
  have zr2 := (HXR.out.below HS2.out).lt
  have zo2 := (HXO.out.below HS2.out).lt
  clear ht1 hr1 ho1 zt1 zr1 zo1
  cases qr with
  | false =>
    have HP := hide_ (show G = false by rw [HG.out]; simp)
    go_wp2
    go_ret
    exact ⟨ret_boolT HP.out.symm, HB2.out⟩
  | true =>
  go_wp2_with fail
  refine (HMT.out _ HB2.out).mono ?_
  rintro e3 w3 ⟨rfl, hb3⟩
  have HB3 := hide_ (HB2.out.trans (hb3.mono HB2.out.size))
  have HS3 := hide_ (show Below W0.heap.size W0 w3 from HS2.out.trans (hb3.mono HS2.out.size))
  clear hb3
  have ht3 := (HXT.out.below HS3.out).cell
  have hr3 := (HXR.out.below HS3.out).cell
  have ho3 := (HXO.out.below HS3.out).cell
  have zt3 := (HXT.out.below HS3.out).lt
  have zr3 := (HXR.out.below HS3.out).lt
  have zo3 := (HXO.out.below HS3.out).lt
  clear ht2 hr2 ho2 zt2 zr2 zo2
  cases qt with
  | false =>
    have HP := hide_ (show G = false by rw [HG.out]; simp)
    go_wp2
    go_ret
    exact ⟨ret_boolT HP.out.symm, HB3.out⟩
  | true =>
  by_cases qc : cn = 0
  case pos =>
    have HP := hide_ (show G = false by rw [HG.out]; simp [qc])
    have d1 : (cn != 0) = false := by simp [qc]
    have d2 : (cn == 0) = true := by simp [qc]
    clear qc
    go_wp2
    skip
    go_ret
    exact ⟨ret_boolT HP.out.symm, HB3.out⟩
  have d1 : (cn != 0) = true := bne_iff_ne.2 qc
  have d2 : (cn == 0) = false := beq_eq_false_iff_ne.2 qc
  have HQC := hide_ qc
  clear qc
  by_cases k1 : ki = 1
  case neg =>
    have HP := hide_ (show G = true by rw [HG.out]; simp [k1, HQC.out])
    have d5 : (ki != 1) = true := bne_iff_ne.2 k1
    clear k1
    go_wp2
    go_ret
    exact ⟨ret_boolT HP.out.symm, HB3.out⟩
  subst k1
  by_cases k2 : (nv : Int) = tv
  case pos =>
    have HP := hide_ (show G = true by rw [HG.out]; simp [k2, HQC.out])
    have d6 : ((nv : Int) == tv) = true := beq_iff_eq.2 k2
    clear k2
    go_wp2
    go_ret
    exact ⟨ret_boolT HP.out.symm, HB3.out⟩
  have HP := hide_ (show G = false by rw [HG.out]; simp [k2])
  have d6 : ((nv : Int) == tv) = false := beq_eq_false_iff_ne.2 k2
  clear k2
  go_wp2
  go_ret
  exact ⟨ret_boolT HP.out.symm, HB3.out⟩

end Go.Proofs.YtpiikdinphnjbaaGreat
