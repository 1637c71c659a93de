/-
  Texts of this claim put together: ApplyW.
-/
import Derived.Test.YtpiikdinphnjbaaGreatJ37
import Derived.Test.YtpiikdinphnjbaaGreatJ34
import Derived.Test.YtpiikdinphnjbaaGreatJ02
import Derived.Deep.RegionHeld
/-
  Engine's Apply, over any contracts of again, do and note.
-/
namespace Go.Proofs.YtpiikdinphnjbaaGreat
open Go.RowKit

theorem rightB_lens {ts tv : Int} {tl : List RuM} {r : RegP} {o : OpM} {cn : Int} (h : rightB ts tv tl r o cn = true) : mayG r = true ∧ mayO o = true ∧ mayT ts tv tl = true ∧ cn ≠ 0 := by
  unfold rightB at h
  simp only [Bool.and_eq_true, Bool.not_eq_true', decide_eq_false_iff_not] at h
  exact ⟨h.2.2.1, h.2.1, h.2.2.2.1, h.1⟩

set_option maxRecDepth 100000 in
set_option maxHeartbeats 25600000 in
theorem apply_of (ts tv : Int) (t : Sl RuM) (x : RegM) (o : OpM) (cn : Int) (S : RegP × Int) (a : Option RepP) (n : RegP) (B : Nat) (w : World) (ht : rusOk w B t) (hx : RegM.ok w B x) (hB : B ≤ w.heap.size)
    (hr : rightB ts tv t.l x.p o cn = true) (h1 : x.va.l.length ≤ 50) (h2 : x.dn.l.length ≤ 50) (h3 : x.ou.l.length ≤ 50) (h4 : x.ma.l.length ≤ 50) (h5 : ∀ d ∈ x.dn.l, d.va.l.length ≤ 50)
    (HAG : ∀ (u : World) (c : RegM), RegM.ok u u.heap.size c → c.p = x.p → Calls Tryz.prog 19 #[c.v, o.v] u (Agains a u))
    (HDO : ∀ (u : World) (c : RegM) (lo z : Nat), rusOk u B t → B ≤ z → At7 u lo z c → c.p = x.p → Calls Tryz.prog 20 #[tabV ts tv t, .pointer (some ⟨z, 0, none⟩), o.v, .int .u64 cn] u (Does S lo z u))
    (HNO : ∀ (u : World) (c : RegM) (y : RepM) (lo z : Nat), At7 u lo z c → c.p = S.1 → y.p = replyG S.1 S.2 → (I64 y.er ∧ U64 y.inc ∧ I64 y.st) → OwnVars u lo y.va → Calls Tryz.prog 21 #[.pointer (some ⟨z, 0, none⟩), o.v, y.v] u (Notes n lo z u))
    (he : I64 S.2) (hs : S.1.va.length ≤ 50) (hnv : n.va.length ≤ 50) (hn : replyG n S.2 = replyG S.1 S.2) :
    Calls Tryz.prog 8 #[tabV ts tv t, x.v, o.v, .int .u64 cn] w (Applies (pickG a x.p (n, replyG S.1 S.2)) 0 w) := by
  have HMA := hide_ (fun (u : World) (hb : Below w.heap.size w u) => mayApply_any ts tv t x o cn B u (rus_stable.below ht (hb.mono hB)) (reg_stable.below hx (hb.mono hB)) (Nat.le_trans hB hb.size))
  simp only [hr] at HMA
  have HCL := hide_ (fun (u : World) (hb : Below w.heap.size w u) => CloneG_any x B u (reg_stable.below hx (hb.mono hB)) (Nat.le_trans hB hb.size) h1 h2 h3 h4 h5)
  have HT := hide_ (fun (u : World) (hb : Below w.heap.size w u) => rus_stable.below ht (hb.mono hB))
  have HB := hide_ hB
  have HAG' := hide_ HAG
  have HDO' := hide_ HDO
  have HNO' := hide_ HNO
  have HE := hide_ he
  have HS := hide_ hs
  have HNV := hide_ hnv
  have HN := hide_ hn
  clear ht hx hB hr h1 h2 h3 h4 h5 HAG HDO HNO he hs hnv hn
  obtain ⟨XP, hXP⟩ : ∃ XP, x.p = XP := ⟨_, rfl⟩
  obtain ⟨tA, tc, tl⟩ := t
  obtain ⟨oki, ke, cl, sq, ac, pa, ar, so, oinc, ce⟩ := o
  obtain ⟨ki, inc, st, ⟨vA, vc, vl⟩, ⟨dA, dc, dl⟩, ⟨oA, oc, ol⟩, la, ⟨mA, mc, ml⟩⟩ := x
  rw [hXP] at HAG' HDO' ⊢
  have HXP := hide_ hXP
  clear hXP
  simp only [tabV, RegM.v, OpM.v, Sl.v] at HMA HCL HAG' HDO' HNO' ⊢
  obtain ⟨W0, hW0⟩ : ∃ W0, ((((w.alloc (.cells #[.int .i64 ts, .int .i64 tv, .slice tA tl.length tc] 24)).alloc (.cells #[.int .u8 ki, .int .u64 inc, .int .i64 st, .slice vA vl.length vc, .slice dA dl.length dc, .slice oA ol.length oc, .int .u64 la, .slice mA ml.length mc] 31)).alloc (.cells #[.int .u8 oki, .int .u8 ke, .int .u8 cl, .int .u64 sq, .int .i64 ac, .int .i64 pa, .int .i64 ar, .int .u8 so, .int .u64 oinc, .int .u64 ce] 33)).alloc (.cells #[.int .u8 0, .int .u64 0, .int .i64 0, .slice none 0 0, .slice none 0 0, .slice none 0 0, .int .u64 0, .slice none 0 0] 31)).alloc (.cells #[.int .i64 0, .int .u64 0, .int .i64 0, .slice none 0 0] 38) = W0 := ⟨_, rfl⟩
  have HX0 := hide_ (show Bxs W0 w.heap.size #[.int .i64 ts, .int .i64 tv, .slice tA tl.length tc] #[.int .u8 oki, .int .u8 ke, .int .u8 cl, .int .u64 sq, .int .i64 ac, .int .i64 pa, .int .i64 ar, .int .u8 so, .int .u64 oinc, .int .u64 ce] from by
    have hT := ((((BoxAt.new w #[.int .i64 ts, .int .i64 tv, .slice tA tl.length tc] 24).alloc (.cells #[.int .u8 ki, .int .u64 inc, .int .i64 st, .slice vA vl.length vc, .slice dA dl.length dc, .slice oA ol.length oc, .int .u64 la, .slice mA ml.length mc] 31)).alloc (.cells #[.int .u8 oki, .int .u8 ke, .int .u8 cl, .int .u64 sq, .int .i64 ac, .int .i64 pa, .int .i64 ar, .int .u8 so, .int .u64 oinc, .int .u64 ce] 33)).alloc (.cells #[.int .u8 0, .int .u64 0, .int .i64 0, .slice none 0 0, .slice none 0 0, .slice none 0 0, .int .u64 0, .slice none 0 0] 31)).alloc (.cells #[.int .i64 0, .int .u64 0, .int .i64 0, .slice none 0 0] 38)
    have hO := ((BoxAt.new ((w.alloc (.cells #[.int .i64 ts, .int .i64 tv, .slice tA tl.length tc] 24)).alloc (.cells #[.int .u8 ki, .int .u64 inc, .int .i64 st, .slice vA vl.length vc, .slice dA dl.length dc, .slice oA ol.length oc, .int .u64 la, .slice mA ml.length mc] 31)) #[.int .u8 oki, .int .u8 ke, .int .u8 cl, .int .u64 sq, .int .i64 ac, .int .i64 pa, .int .i64 ar, .int .u8 so, .int .u64 oinc, .int .u64 ce] 33).alloc (.cells #[.int .u8 0, .int .u64 0, .int .i64 0, .slice none 0 0, .slice none 0 0, .slice none 0 0, .int .u64 0, .slice none 0 0] 31)).alloc (.cells #[.int .i64 0, .int .u64 0, .int .i64 0, .slice none 0 0] 38)
    have hG := (BoxAt.new (((w.alloc (.cells #[.int .i64 ts, .int .i64 tv, .slice tA tl.length tc] 24)).alloc (.cells #[.int .u8 ki, .int .u64 inc, .int .i64 st, .slice vA vl.length vc, .slice dA dl.length dc, .slice oA ol.length oc, .int .u64 la, .slice mA ml.length mc] 31)).alloc (.cells #[.int .u8 oki, .int .u8 ke, .int .u8 cl, .int .u64 sq, .int .i64 ac, .int .i64 pa, .int .i64 ar, .int .u8 so, .int .u64 oinc, .int .u64 ce] 33)) #[.int .u8 0, .int .u64 0, .int .i64 0, .slice none 0 0, .slice none 0 0, .slice none 0 0, .int .u64 0, .slice none 0 0] 31).alloc (.cells #[.int .i64 0, .int .u64 0, .int .i64 0, .slice none 0 0] 38)
    have hP := BoxAt.new ((((w.alloc (.cells #[.int .i64 ts, .int .i64 tv, .slice tA tl.length tc] 24)).alloc (.cells #[.int .u8 ki, .int .u64 inc, .int .i64 st, .slice vA vl.length vc, .slice dA dl.length dc, .slice oA ol.length oc, .int .u64 la, .slice mA ml.length mc] 31)).alloc (.cells #[.int .u8 oki, .int .u8 ke, .int .u8 cl, .int .u64 sq, .int .i64 ac, .int .i64 pa, .int .i64 ar, .int .u8 so, .int .u64 oinc, .int .u64 ce] 33)).alloc (.cells #[.int .u8 0, .int .u64 0, .int .i64 0, .slice none 0 0, .slice none 0 0, .slice none 0 0, .int .u64 0, .slice none 0 0] 31)) #[.int .i64 0, .int .u64 0, .int .i64 0, .slice none 0 0] 38
    rw [hW0] at hT hO hG hP
    exact ⟨by simpa using hT, by simpa using hO, by simpa using hG, by simpa using hP⟩)
  have HR0 := hide_ (show BoxAt W0 (w.heap.size + 1) #[.int .u8 ki, .int .u64 inc, .int .i64 st, .slice vA vl.length vc, .slice dA dl.length dc, .slice oA ol.length oc, .int .u64 la, .slice mA ml.length mc] 31 from by
    have h := (((BoxAt.new (w.alloc (.cells #[.int .i64 ts, .int .i64 tv, .slice tA tl.length tc] 24)) #[.int .u8 ki, .int .u64 inc, .int .i64 st, .slice vA vl.length vc, .slice dA dl.length dc, .slice oA ol.length oc, .int .u64 la, .slice mA ml.length mc] 31).alloc (.cells #[.int .u8 oki, .int .u8 ke, .int .u8 cl, .int .u64 sq, .int .i64 ac, .int .i64 pa, .int .i64 ar, .int .u8 so, .int .u64 oinc, .int .u64 ce] 33)).alloc (.cells #[.int .u8 0, .int .u64 0, .int .i64 0, .slice none 0 0, .slice none 0 0, .slice none 0 0, .int .u64 0, .slice none 0 0] 31)).alloc (.cells #[.int .i64 0, .int .u64 0, .int .i64 0, .slice none 0 0] 38)
    rw [hW0] at h
    simpa using h)
  have HB0 := hide_ (show Below w.heap.size w W0 from hW0 ▸ (((((Below.refl _ _).alloc (Nat.le_refl _) _).alloc (by simp) _).alloc (by simp; omega) _).alloc (by simp; omega) _).alloc (by simp; omega) _)
  have HZ0 := hide_ (show w.heap.size + 5 = W0.heap.size from by rw [← hW0]; simp)
  have HW0 := hide_ hW0
  clear hW0
  go_enter Tryz.func8, Tryz.ntmps8
  go_wp2_with fail
  rw [HW0.out]
  refine (HMA.out _ HB0.out).mono ?_
  rintro e1 w1 ⟨rfl, hb1⟩
  have HS1 := hide_ hb1
  have HB1 := hide_ (HB0.out.trans (hb1.mono HB0.out.size))
  have hs1 : w.heap.size + 5 ≤ w1.heap.size := by have := hb1.size; have := HZ0.out; omega
  have hr1 := (HR0.out.below hb1).cell
  have z1 : w.heap.size + 1 < w1.heap.size := by omega
  clear hb1
  go_wp2_with fail
  refine (HCL.out _ HB1.out).mono ?_
  rintro e2 w2 ⟨c, rfl, hcp, hcf, hb2⟩
  have hs2 : w1.heap.size ≤ w2.heap.size := hb2.size
  have HS2 := hide_ (HS1.out.trans (hb2.mono HS1.out.size))
  have HB2 := hide_ (HB1.out.trans (hb2.mono HB1.out.size))
  have HCF := hide_ hcf
  have HCP := hide_ (hcp.trans HXP.out)
  clear hcf hb2 hr1 hcp HCL HMA
  obtain ⟨ki1, inc1, st1, ⟨vA1, vc1, vl1⟩, ⟨dA1, dc1, dl1⟩, ⟨oA1, oc1, ol1⟩, la1, ⟨mA1, mc1, ml1⟩⟩ := c
  obtain ⟨lo, hlo⟩ : ∃ n, w1.heap.size = n := ⟨_, rfl⟩
  have HCF2 := hide_ (HCF.out.less (lo' := lo) (by omega))
  simp only [RegM.v, Sl.v]
  have HR2 := hide_ (HR0.out.below HS2.out)
  have HX2 := hide_ (HX0.out.below HS2.out)
  have z2 : w.heap.size + 1 < w2.heap.size := by omega

  have r0 := (HR2.out.cell 0).trans (show _ = some (.int .u8 ki : Value) from rfl)
  have g0 := HR2.out.frozen 0
  have r1 := (HR2.out.cell 1).trans (show _ = some (.int .u64 inc : Value) from rfl)
  have g1 := HR2.out.frozen 1
  have r2 := (HR2.out.cell 2).trans (show _ = some (.int .i64 st : Value) from rfl)
  have g2 := HR2.out.frozen 2
  have r3 := (HR2.out.cell 3).trans (show _ = some (.slice vA vl.length vc : Value) from rfl)
  have g3 := HR2.out.frozen 3
  have r4 := (HR2.out.cell 4).trans (show _ = some (.slice dA dl.length dc : Value) from rfl)
  have g4 := HR2.out.frozen 4
  have r5 := (HR2.out.cell 5).trans (show _ = some (.slice oA ol.length oc : Value) from rfl)
  have g5 := HR2.out.frozen 5
  have r6 := (HR2.out.cell 6).trans (show _ = some (.int .u64 la : Value) from rfl)
  have g6 := HR2.out.frozen 6
  have r7 := (HR2.out.cell 7).trans (show _ = some (.slice mA ml.length mc : Value) from rfl)
  have g7 := HR2.out.frozen 7
  obtain ⟨W3, hW3⟩ : ∃ W3, ((((((((w2.setCell ⟨w.heap.size + 1, 0, none⟩ (.int .u8 ki1)).setCell ⟨w.heap.size + 1, 1, none⟩ (.int .u64 inc1)).setCell ⟨w.heap.size + 1, 2, none⟩ (.int .i64 st1)).setCell ⟨w.heap.size + 1, 3, none⟩ (.slice vA1 vl1.length vc1)).setCell ⟨w.heap.size + 1, 4, none⟩ (.slice dA1 dl1.length dc1)).setCell ⟨w.heap.size + 1, 5, none⟩ (.slice oA1 ol1.length oc1)).setCell ⟨w.heap.size + 1, 6, none⟩ (.int .u64 la1)).setCell ⟨w.heap.size + 1, 7, none⟩ (.slice mA1 ml1.length mc1)) = W3 := ⟨_, rfl⟩
  have HAT := hide_ (show At7 W3 lo (w.heap.size + 1) ⟨ki1, inc1, st1, ⟨vA1, vc1, vl1⟩, ⟨dA1, dc1, dl1⟩, ⟨oA1, oc1, ol1⟩, la1, ⟨mA1, mc1, ml1⟩⟩ from hW3 ▸ ⟨(heap_set_all8 HR2.out), (Fresh.far (Fresh.far (Fresh.far (Fresh.far (Fresh.far (Fresh.far (Fresh.far (Fresh.far HCF2.out (by omega)) (by omega)) (by omega)) (by omega)) (by omega)) (by omega)) (by omega)) (by omega)), by omega, by simp [World.setCell]; omega⟩)
  have HX3 := hide_ (show Bxs W3 w.heap.size #[.int .i64 ts, .int .i64 tv, .slice tA tl.length tc] #[.int .u8 oki, .int .u8 ke, .int .u8 cl, .int .u64 sq, .int .i64 ac, .int .i64 pa, .int .i64 ar, .int .u8 so, .int .u64 oinc, .int .u64 ce] from hW3 ▸ (Bxs.set (Bxs.set (Bxs.set (Bxs.set (Bxs.set (Bxs.set (Bxs.set (Bxs.set HX2.out (by omega) (by omega) (by omega) (by omega)) (by omega) (by omega) (by omega) (by omega)) (by omega) (by omega) (by omega) (by omega)) (by omega) (by omega) (by omega) (by omega)) (by omega) (by omega) (by omega) (by omega)) (by omega) (by omega) (by omega) (by omega)) (by omega) (by omega) (by omega) (by omega)) (by omega) (by omega) (by omega) (by omega)))
  have HB3 := hide_ (show Below w.heap.size w W3 from hW3 ▸ ((((((((HB2.out.setCell (p := ⟨w.heap.size + 1, 0, none⟩) (Nat.le_succ _) _).setCell (p := ⟨w.heap.size + 1, 1, none⟩) (Nat.le_succ _) _).setCell (p := ⟨w.heap.size + 1, 2, none⟩) (Nat.le_succ _) _).setCell (p := ⟨w.heap.size + 1, 3, none⟩) (Nat.le_succ _) _).setCell (p := ⟨w.heap.size + 1, 4, none⟩) (Nat.le_succ _) _).setCell (p := ⟨w.heap.size + 1, 5, none⟩) (Nat.le_succ _) _).setCell (p := ⟨w.heap.size + 1, 6, none⟩) (Nat.le_succ _) _).setCell (p := ⟨w.heap.size + 1, 7, none⟩) (Nat.le_succ _) _))
  have hs3 : lo ≤ W3.heap.size := HAT.out.size
  have HW3 := hide_ hW3
  have hl5 : w.heap.size + 5 ≤ lo := by omega
  clear hW3 hlo
  go_upto_region 4 with fail
  rw [HW3.out]
  clear r0 g0 r1 g1 r2 g2 r3 g3 r4 g4 r5 g5 r6 g6 r7 g7 z2
  have hr3 := HAT.out.box.cell
  have hr3o := HX3.out.o.cell
  have z3 := HAT.out.box.lt
  have z3o := HX3.out.o.lt
  simp only [RegM.box] at hr3
  go_wp2_with fail
  clear hr3 hr3o z3 z3o
  have HA3 := hide_ (HAG'.out _ ⟨ki1, inc1, st1, ⟨vA1, vc1, vl1⟩, ⟨dA1, dc1, dl1⟩, ⟨oA1, oc1, ol1⟩, la1, ⟨mA1, mc1, ml1⟩⟩ HAT.out.fresh.ok HCP.out)
  refine HA3.out.mono ?_
  rintro e4 w4 ⟨⟨er1, yi1, ys1, ⟨yA1, yc1, yl1⟩⟩, rfl, hyp, hyn, hyo, hb4⟩
  have HYP := hide_ hyp
  have HYN := hide_ hyn
  have HYO := hide_ hyo
  have HAT4 := hide_ (HAT.out.below hb4)
  have HX4 := hide_ (HX3.out.below hb4)
  have HB4 := hide_ (HB3.out.trans (hb4.mono HB3.out.size))
  have hs4 : lo ≤ w4.heap.size := HAT4.out.size
  clear hb4 HA3 hyp hyn hyo
  simp only [RepM.v, Sl.v]

  obtain ⟨W5, hW5⟩ : ∃ W5, w4.alloc (.cells #[.int .i64 er1, .int .u64 yi1, .int .i64 ys1, .slice yA1 yl1.length yc1] 38) = W5 := ⟨_, rfl⟩
  have HAT5 := hide_ (show At7 W5 lo (w.heap.size + 1) _ from hW5 ▸ HAT4.out.below ((Below.refl _ _).alloc (Nat.le_refl _) _))
  have HX5 := hide_ (show Bxs W5 w.heap.size _ _ from hW5 ▸ HX4.out.alloc _)
  have HY5 := hide_ (show BoxAt W5 w4.heap.size #[.int .i64 er1, .int .u64 yi1, .int .i64 ys1, .slice yA1 yl1.length yc1] 38 from hW5 ▸ BoxAt.new w4 _ _)
  have HB5 := hide_ (show Below w.heap.size w W5 from hW5 ▸ HB4.out.alloc HB4.out.size _)
  have HYV5 := hide_ (show OwnVars W5 W3.heap.size ⟨yA1, yc1, yl1⟩ from hW5 ▸ HYO.out.below ((Below.refl _ _).alloc (Nat.le_refl _) _))
  have HW5 := hide_ hW5
  clear hW5
  go_upto_region 5 with fail
  rw [HW5.out]
  cases a with
  | some p =>
    simp only [Option.isSome_some]
    go_upto_region 6 with fail
    have hr5 := HAT5.out.box.cell
    have hy5 := HY5.out.cell
    have hg5 := HX5.out.g.cell
    have hgf := HX5.out.g.frozen
    have hp5 := HX5.out.p.cell
    have hpf := HX5.out.p.frozen
    have zr5 := HAT5.out.box.lt
    have zy5 := HY5.out.lt
    have zg5 := HX5.out.g.lt
    have zp5 := HX5.out.p.lt
    have zl4 : w.heap.size + 5 ≤ w4.heap.size := by omega
    simp only [RegM.box] at hr5
    go_region

    clear hr5 hy5 hg5 hgf hp5 hpf zr5 zy5 zg5 zp5
    obtain ⟨Wf, hWf⟩ : ∃ Wf, (((((((((((((W5.setCell ⟨w.heap.size + 1 + 1 + 1, 0, none⟩ (.int .u8 ki1)).setCell ⟨w.heap.size + 1 + 1 + 1, 1, none⟩ (.int .u64 inc1)).setCell ⟨w.heap.size + 1 + 1 + 1, 2, none⟩ (.int .i64 st1)).setCell ⟨w.heap.size + 1 + 1 + 1, 3, none⟩ (.slice vA1 vl1.length vc1)).setCell ⟨w.heap.size + 1 + 1 + 1, 4, none⟩ (.slice dA1 dl1.length dc1)).setCell ⟨w.heap.size + 1 + 1 + 1, 5, none⟩ (.slice oA1 ol1.length oc1)).setCell ⟨w.heap.size + 1 + 1 + 1, 6, none⟩ (.int .u64 la1)).setCell ⟨w.heap.size + 1 + 1 + 1, 7, none⟩ (.slice mA1 ml1.length mc1)).setCell ⟨w.heap.size + 1 + 1 + 1 + 1, 0, none⟩ (.int .i64 er1)).setCell ⟨w.heap.size + 1 + 1 + 1 + 1, 1, none⟩ (.int .u64 yi1)).setCell ⟨w.heap.size + 1 + 1 + 1 + 1, 2, none⟩ (.int .i64 ys1)).setCell ⟨w.heap.size + 1 + 1 + 1 + 1, 3, none⟩ (.slice yA1 yl1.length yc1))).drew = Wf := ⟨_, rfl⟩
    rw [hWf]
    have HGf := hide_ (show BoxAt Wf (w.heap.size + 1 + 1 + 1) #[.int .u8 ki1, .int .u64 inc1, .int .i64 st1, .slice vA1 vl1.length vc1, .slice dA1 dl1.length dc1, .slice oA1 ol1.length oc1, .int .u64 la1, .slice mA1 ml1.length mc1] 31 from by rw [← hWf]; refine BoxAt.below ?_ (Below.refl _ _).drew; exact (BoxAt.apart (BoxAt.apart (BoxAt.apart (BoxAt.apart (heap_set_all8 HX5.out.g) (by omega)) (by omega)) (by omega)) (by omega)))
    have HPf := hide_ (show BoxAt Wf (w.heap.size + 1 + 1 + 1 + 1) #[.int .i64 er1, .int .u64 yi1, .int .i64 ys1, .slice yA1 yl1.length yc1] 38 from by rw [← hWf]; refine BoxAt.below ?_ (Below.refl _ _).drew; exact (heap_set_all4 (BoxAt.apart (BoxAt.apart (BoxAt.apart (BoxAt.apart (BoxAt.apart (BoxAt.apart (BoxAt.apart (BoxAt.apart HX5.out.p (by omega)) (by omega)) (by omega)) (by omega)) (by omega)) (by omega)) (by omega)) (by omega))))
    have HFf := hide_ (show Fresh Wf lo ⟨ki1, inc1, st1, ⟨vA1, vc1, vl1⟩, ⟨dA1, dc1, dl1⟩, ⟨oA1, oc1, ol1⟩, la1, ⟨mA1, mc1, ml1⟩⟩ from by rw [← hWf]; refine Fresh.below ?_ (Below.refl _ _).drew; exact (Fresh.far (Fresh.far (Fresh.far (Fresh.far (Fresh.far (Fresh.far (Fresh.far (Fresh.far (Fresh.far (Fresh.far (Fresh.far (Fresh.far HAT5.out.fresh (by omega)) (by omega)) (by omega)) (by omega)) (by omega)) (by omega)) (by omega)) (by omega)) (by omega)) (by omega)) (by omega)) (by omega)))
    have HVf := hide_ (show OwnVars Wf lo ⟨yA1, yc1, yl1⟩ from by rw [← hWf]; refine OwnVars.below ?_ (Below.refl _ _).drew; exact (OwnVars.far (OwnVars.far (OwnVars.far (OwnVars.far (OwnVars.far (OwnVars.far (OwnVars.far (OwnVars.far (OwnVars.far (OwnVars.far (OwnVars.far (OwnVars.far (HYV5.out.less HAT.out.size) (by omega)) (by omega)) (by omega)) (by omega)) (by omega)) (by omega)) (by omega)) (by omega)) (by omega)) (by omega)) (by omega)) (by omega)))
    have HBf := hide_ (show Below w.heap.size w Wf from by rw [← hWf]; refine Below.drew ?_; exact ((((((((((((HB5.out.setCell (p := ⟨w.heap.size + 1 + 1 + 1, 0, none⟩) (show w.heap.size ≤ w.heap.size + 1 + 1 + 1 by omega) _).setCell (p := ⟨w.heap.size + 1 + 1 + 1, 1, none⟩) (show w.heap.size ≤ w.heap.size + 1 + 1 + 1 by omega) _).setCell (p := ⟨w.heap.size + 1 + 1 + 1, 2, none⟩) (show w.heap.size ≤ w.heap.size + 1 + 1 + 1 by omega) _).setCell (p := ⟨w.heap.size + 1 + 1 + 1, 3, none⟩) (show w.heap.size ≤ w.heap.size + 1 + 1 + 1 by omega) _).setCell (p := ⟨w.heap.size + 1 + 1 + 1, 4, none⟩) (show w.heap.size ≤ w.heap.size + 1 + 1 + 1 by omega) _).setCell (p := ⟨w.heap.size + 1 + 1 + 1, 5, none⟩) (show w.heap.size ≤ w.heap.size + 1 + 1 + 1 by omega) _).setCell (p := ⟨w.heap.size + 1 + 1 + 1, 6, none⟩) (show w.heap.size ≤ w.heap.size + 1 + 1 + 1 by omega) _).setCell (p := ⟨w.heap.size + 1 + 1 + 1, 7, none⟩) (show w.heap.size ≤ w.heap.size + 1 + 1 + 1 by omega) _).setCell (p := ⟨w.heap.size + 1 + 1 + 1 + 1, 0, none⟩) (show w.heap.size ≤ w.heap.size + 1 + 1 + 1 + 1 by omega) _).setCell (p := ⟨w.heap.size + 1 + 1 + 1 + 1, 1, none⟩) (show w.heap.size ≤ w.heap.size + 1 + 1 + 1 + 1 by omega) _).setCell (p := ⟨w.heap.size + 1 + 1 + 1 + 1, 2, none⟩) (show w.heap.size ≤ w.heap.size + 1 + 1 + 1 + 1 by omega) _).setCell (p := ⟨w.heap.size + 1 + 1 + 1 + 1, 3, none⟩) (show w.heap.size ≤ w.heap.size + 1 + 1 + 1 + 1 by omega) _))
    have hgc := HGf.out.cell
    have hpc := HPf.out.cell
    go_wp2
    refine bodyPost_ret (v := .tuple #[.agg #[.int .u8 ki1, .int .u64 inc1, .int .i64 st1, .slice vA1 vl1.length vc1, .slice dA1 dl1.length dc1, .slice oA1 ol1.length oc1, .int .u64 la1, .slice mA1 ml1.length mc1], .agg #[.int .i64 er1, .int .u64 yi1, .int .i64 ys1, .slice yA1 yl1.length yc1], .int .i64 0]) (by simp [results, Tryz.results8, go_sem, hgc, hpc]) rfl ?_
    exact ⟨⟨ki1, inc1, st1, ⟨vA1, vc1, vl1⟩, ⟨dA1, dc1, dl1⟩, ⟨oA1, oc1, ol1⟩, la1, ⟨mA1, mc1, ml1⟩⟩, ⟨er1, yi1, ys1, ⟨yA1, yc1, yl1⟩⟩, rfl, HCP.out, HYP.out, HFf.out.less (by omega), HYN.out, HVf.out.less (by omega), HBf.out⟩

  | none =>

    simp only [Option.isSome_none]
    have ht5 := HX5.out.t.cell
    have ho5 := HX5.out.o.cell
    have zt5 := HX5.out.t.lt
    have zo5 := HX5.out.o.lt
    have HD5 := hide_ (HDO'.out W5 _ lo (w.heap.size + 1) (HT.out _ HB5.out) (Nat.le_succ_of_le HB.out) HAT5.out HCP.out)
    go_wp2_with fail
    clear ht5 ho5 zt5 zo5
    refine HD5.out.mono ?_
    rintro e6 w6 ⟨x, rfl, hxp, hxa, hxk⟩
    have HXP6 := hide_ hxp
    have HXA := hide_ hxa
    have HX6 := hide_ (HX5.out.keep hxk (by omega))
    have HB6 := hide_ (HB5.out.trans (hxk.1.mono (Nat.le_succ _)))
    clear hxa hxk HD5 hxp
    obtain ⟨ki2, inc2, st2, ⟨vA2, vc2, vl2⟩, ⟨dA2, dc2, dl2⟩, ⟨oA2, oc2, ol2⟩, la2, ⟨mA2, mc2, ml2⟩⟩ := x
    have HRP := hide_ (replyOf_any ⟨ki2, inc2, st2, ⟨vA2, vc2, vl2⟩, ⟨dA2, dc2, dl2⟩, ⟨oA2, oc2, ol2⟩, la2, ⟨mA2, mc2, ml2⟩⟩ S.2 w6.drew.heap.size w6.drew (HXA.out.below (Below.refl _ _).drew).fresh.ok HE.out (Nat.le_refl _) (by have h := HS.out; rw [← HXP6.out] at h; exact h))
    rw [HXP6.out] at HRP
    obtain ⟨S1, S2⟩ := S
    simp only at HXP6 HRP HNO' HE HS HN ⊢
    have hxc := HXA.out.box.cell
    have hoc := HX6.out.o.cell
    have zx := HXA.out.box.lt
    have zo := HX6.out.o.lt
    simp only [RegM.box] at hxc
    simp only [RegM.v, Sl.v] at HRP
    go_upto_region 8 with fail

    refine wp_region_held_drew (S := fun w' => (∀ i : Nat, w'.cell? ⟨w.heap.size + 1 + 1, i, none⟩ = (#[.int .u8 oki, .int .u8 ke, .int .u8 cl, .int .u64 sq, .int .i64 ac, .int .i64 pa, .int .i64 ar, .int .u8 so, .int .u64 oinc, .int .u64 ce] : Array Value)[i]?)) (by kernel_rfl) ((HX6.out.o.below (Below.refl _ _).drew).cell) (fun hHeld => ?_)
    refine wpAnyH_take (i := 0) (oi := ⟨some 37, _, _, _, _, _⟩) (v := ?v1) rfl (by kernel_rfl) (by kernel_rfl) (by kernel_rfl) (fun _ _ _ h => h) (Or.inl ⟨by rfl, ?hy1⟩) (by assumption) ?rest1
    case hy1 => intro w hSw; (try dsimp only at hSw); go_simp <;> with_reducible rfl
    simp only [Act.put, List.setIfInBounds_toArray, List.set_cons_zero, List.set_cons_succ]
    refine wpAnyH_take (i := 2) (oi := ⟨some 39, _, _, _, _, _⟩) (v := ?v2) rfl (by kernel_rfl) (by kernel_rfl) (by kernel_rfl) (fun _ _ _ h => h) (Or.inl ⟨by rfl, ?hy2⟩) (by assumption) ?rest2
    case hy2 => intro w hSw; (try dsimp only at hSw); go_simp <;> with_reducible rfl
    simp only [Act.put, List.setIfInBounds_toArray, List.set_cons_zero, List.set_cons_succ]
    refine wpAnyH_ready (rs := [1]) (by kernel_rfl) (by simp) ?_
    refine AllReadyH.cons rfl (fun K hK => ?_) AllReadyH.nil
    go_simp
    have HO6d := hide_ (HX6.out.o.below (Below.refl _ _).drew)
    refine hK.out _ _ (HX6.out.o.cell) (fun hHeld => ?_)
    clear hK K
    refine wpAnyH_ready (rs := [3]) (by kernel_rfl) (by simp) ?_
    refine AllReadyH.cons rfl (fun K hK => ?_) AllReadyH.nil
    go_simp
    go_wp2_with fail
    refine HRP.out.mono ?_
    rintro e7 w7 ⟨⟨er3, yi3, ys3, ⟨yA3, yc3, yl3⟩⟩, rfl, hyp, hyn, hyo, hb7⟩
    have HYP3 := hide_ hyp
    have HYN3 := hide_ hyn
    have HYO3 := hide_ hyo
    have HYB3 := hide_ hb7
    have HAT7 := hide_ ((HXA.out.below (Below.refl _ _).drew).below hb7)
    have HNO7 := hide_ (HNO'.out w7 ⟨ki2, inc2, st2, ⟨vA2, vc2, vl2⟩, ⟨dA2, dc2, dl2⟩, ⟨oA2, oc2, ol2⟩, la2, ⟨mA2, mc2, ml2⟩⟩ ⟨er3, yi3, ys3, ⟨yA3, yc3, yl3⟩⟩ lo (w.heap.size + 1) HAT7.out HXP6.out hyp hyn (hyo.less HXA.out.size))
    simp only [RepM.v, Sl.v] at HNO7
    clear hyp hyn hyo hb7
    simp only [RepM.v, Sl.v]
    refine hK.out _ _ (((HX6.out.o.below (Below.refl _ _).drew).below HYB3.out).cell) (fun hHeld => ?_)
    clear hK K
    refine wpAnyH_ready (rs := [4]) (by kernel_rfl) (by simp) ?_
    refine AllReadyH.cons rfl (fun K hK => ?_) AllReadyH.nil
    go_simp
    go_wp2_with fail
    refine HNO7.out.mono ?_
    rintro e8 w8 ⟨x8, rfl, hp8, hat8, hk8⟩
    have HP8 := hide_ hp8
    have HAT8 := hide_ hat8
    have HX8 := hide_ (((HX6.out.below (Below.refl _ _).drew).below HYB3.out).keep hk8 (by omega))
    have HB8 := hide_ ((HB6.out.trans (((Below.refl w6.heap.size w6).drew.trans (HYB3.out.mono (Nat.le_refl _))).mono HB6.out.size)).trans (hk8.1.mono (Nat.le_succ _)))
    clear hat8 hk8 hp8 HNO7
    refine hK.out _ _ (HX8.out.o.cell) (fun hHeld => ?_)
    clear hK K
    refine wpAnyH_done (by kernel_rfl) ?_ _
    clear hxc hoc zx zo HRP
    obtain ⟨ki4, inc4, st4, ⟨vA4, vc4, vl4⟩, ⟨dA4, dc4, dl4⟩, ⟨oA4, oc4, ol4⟩, la4, ⟨mA4, mc4, ml4⟩⟩ := x8
    have HRP := hide_ (replyOf_any ⟨ki4, inc4, st4, ⟨vA4, vc4, vl4⟩, ⟨dA4, dc4, dl4⟩, ⟨oA4, oc4, ol4⟩, la4, ⟨mA4, mc4, ml4⟩⟩ S2 w8.drew.heap.size w8.drew (HAT8.out.below (Below.refl _ _).drew).fresh.ok HE.out (Nat.le_refl _) (by have h := HNV.out; rw [← HP8.out] at h; exact h))
    rw [HP8.out, HN.out] at HRP
    have hxc := HAT8.out.box.cell
    have zx := HAT8.out.box.lt
    simp only [RegM.box] at hxc
    simp only [RegM.v, Sl.v] at HRP
    have hs8 : lo ≤ w8.heap.size := HAT8.out.size
    go_upto_region 9 with fail
    clear hxc zx

    refine wp_region_held_drew (S := fun w' => (∀ i : Nat, w'.cell? ⟨w.heap.size + 1, i, none⟩ = (#[.int .u8 ki4, .int .u64 inc4, .int .i64 st4, .slice vA4 vl4.length vc4, .slice dA4 dl4.length dc4, .slice oA4 ol4.length oc4, .int .u64 la4, .slice mA4 ml4.length mc4] : Array Value)[i]?)) (by kernel_rfl) ((by have h := (HAT8.out.below (Below.refl _ _).drew).box.cell; simp only [RegM.box] at h; exact h)) (fun hHeld => ?_)
    refine wpAnyH_take (i := 0) (oi := ⟨some 42, _, _, _, _, _⟩) (v := ?v3) rfl (by kernel_rfl) (by kernel_rfl) (by kernel_rfl) (fun _ _ _ h => h) (Or.inl ⟨by rfl, ?hy3⟩) (by assumption) ?rest3
    case hy3 => intro w hSw; (try dsimp only at hSw); go_simp <;> with_reducible rfl
    simp only [Act.put, List.setIfInBounds_toArray, List.set_cons_zero, List.set_cons_succ]
    refine wpAnyH_take (i := 1) (oi := ⟨some 43, _, _, _, _, _⟩) (v := ?v4) rfl (by kernel_rfl) (by kernel_rfl) (by kernel_rfl) (fun _ _ _ h => h) (Or.inl ⟨by rfl, ?hy4⟩) (by assumption) ?rest4
    case hy4 => intro w hSw; (try dsimp only at hSw); go_simp <;> with_reducible rfl
    simp only [Act.put, List.setIfInBounds_toArray, List.set_cons_zero, List.set_cons_succ]
    refine wpAnyH_take (i := 2) (oi := ⟨some 44, _, _, _, _, _⟩) (v := ?v5) rfl (by kernel_rfl) (by kernel_rfl) (by kernel_rfl) (fun _ _ _ h => h) (Or.inl ⟨by rfl, ?hy5⟩) (by assumption) ?rest5
    case hy5 => intro w hSw; (try dsimp only at hSw); go_simp <;> with_reducible rfl
    simp only [Act.put, List.setIfInBounds_toArray, List.set_cons_zero, List.set_cons_succ]
    refine wpAnyH_ready (rs := [3]) (by kernel_rfl) (by simp) ?_
    refine AllReadyH.cons rfl (fun K hK => ?_) AllReadyH.nil
    go_simp
    go_wp2_with fail
    refine HRP.out.mono ?_
    rintro e9 w9 ⟨⟨er5, yi5, ys5, ⟨yA5, yc5, yl5⟩⟩, rfl, hyp, hyn, hyo, hb9⟩
    have HYP5 := hide_ hyp
    have HYN5 := hide_ hyn
    have HYO5 := hide_ (hyo.less (lo' := lo) HAT8.out.size)
    have HAT9 := hide_ ((HAT8.out.below (Below.refl _ _).drew).below hb9)
    have HX9 := hide_ ((HX8.out.below (Below.refl _ _).drew).below hb9)
    have HB9 := hide_ ((HB8.out.drew).trans (hb9.mono HB8.out.size))
    clear hyp hyn hyo hb9
    simp only [RepM.v, Sl.v]
    refine hK.out _ _ ((by have h := HAT9.out.box.cell; simp only [RegM.box] at h; exact h)) (fun hHeld => ?_)
    clear hK K
    refine wpAnyH_ready (rs := [4]) (by kernel_rfl) (by simp) ?_
    refine AllReadyH.cons rfl (fun K hK => ?_) AllReadyH.nil
    go_simp
    have r0 := (HX9.out.g.cell 0).trans (show _ = some (.int .u8 0 : Value) from rfl)
    have g0 := HX9.out.g.frozen 0
    have r1 := (HX9.out.g.cell 1).trans (show _ = some (.int .u64 0 : Value) from rfl)
    have g1 := HX9.out.g.frozen 1
    have r2 := (HX9.out.g.cell 2).trans (show _ = some (.int .i64 0 : Value) from rfl)
    have g2 := HX9.out.g.frozen 2
    have r3 := (HX9.out.g.cell 3).trans (show _ = some (.slice none 0 0 : Value) from rfl)
    have g3 := HX9.out.g.frozen 3
    have r4 := (HX9.out.g.cell 4).trans (show _ = some (.slice none 0 0 : Value) from rfl)
    have g4 := HX9.out.g.frozen 4
    have r5 := (HX9.out.g.cell 5).trans (show _ = some (.slice none 0 0 : Value) from rfl)
    have g5 := HX9.out.g.frozen 5
    have r6 := (HX9.out.g.cell 6).trans (show _ = some (.int .u64 0 : Value) from rfl)
    have g6 := HX9.out.g.frozen 6
    have r7 := (HX9.out.g.cell 7).trans (show _ = some (.slice none 0 0 : Value) from rfl)
    have g7 := HX9.out.g.frozen 7
    go_simp
    clear r0 g0 r1 g1 r2 g2 r3 g3 r4 g4 r5 g5 r6 g6 r7 g7
    obtain ⟨W10, hW10⟩ : ∃ W10, ((((((((w9.setCell ⟨w.heap.size + 1 + 1 + 1, 0, none⟩ (.int .u8 ki4)).setCell ⟨w.heap.size + 1 + 1 + 1, 1, none⟩ (.int .u64 inc4)).setCell ⟨w.heap.size + 1 + 1 + 1, 2, none⟩ (.int .i64 st4)).setCell ⟨w.heap.size + 1 + 1 + 1, 3, none⟩ (.slice vA4 vl4.length vc4)).setCell ⟨w.heap.size + 1 + 1 + 1, 4, none⟩ (.slice dA4 dl4.length dc4)).setCell ⟨w.heap.size + 1 + 1 + 1, 5, none⟩ (.slice oA4 ol4.length oc4)).setCell ⟨w.heap.size + 1 + 1 + 1, 6, none⟩ (.int .u64 la4)).setCell ⟨w.heap.size + 1 + 1 + 1, 7, none⟩ (.slice mA4 ml4.length mc4)) = W10 := ⟨_, rfl⟩
    rw [hW10]
    have HAT10 := hide_ (show At7 W10 lo (w.heap.size + 1) ⟨ki4, inc4, st4, ⟨vA4, vc4, vl4⟩, ⟨dA4, dc4, dl4⟩, ⟨oA4, oc4, ol4⟩, la4, ⟨mA4, mc4, ml4⟩⟩ from hW10 ▸ ⟨(BoxAt.apart (BoxAt.apart (BoxAt.apart (BoxAt.apart (BoxAt.apart (BoxAt.apart (BoxAt.apart (BoxAt.apart HAT9.out.box (by omega)) (by omega)) (by omega)) (by omega)) (by omega)) (by omega)) (by omega)) (by omega)), (Fresh.far (Fresh.far (Fresh.far (Fresh.far (Fresh.far (Fresh.far (Fresh.far (Fresh.far HAT9.out.fresh (by omega)) (by omega)) (by omega)) (by omega)) (by omega)) (by omega)) (by omega)) (by omega)), HAT9.out.low, by simp [World.setCell]; exact HAT9.out.size⟩)
    have HG10 := hide_ (show BoxAt W10 (w.heap.size + 1 + 1 + 1) #[.int .u8 ki4, .int .u64 inc4, .int .i64 st4, .slice vA4 vl4.length vc4, .slice dA4 dl4.length dc4, .slice oA4 ol4.length oc4, .int .u64 la4, .slice mA4 ml4.length mc4] 31 from hW10 ▸ (heap_set_all8 HX9.out.g))
    have HP10 := hide_ (show BoxAt W10 (w.heap.size + 1 + 1 + 1 + 1) #[.int .i64 0, .int .u64 0, .int .i64 0, .slice none 0 0] 38 from hW10 ▸ (BoxAt.apart (BoxAt.apart (BoxAt.apart (BoxAt.apart (BoxAt.apart (BoxAt.apart (BoxAt.apart (BoxAt.apart HX9.out.p (by omega)) (by omega)) (by omega)) (by omega)) (by omega)) (by omega)) (by omega)) (by omega)))
    have HV10 := hide_ (show OwnVars W10 lo ⟨yA5, yc5, yl5⟩ from hW10 ▸ (OwnVars.far (OwnVars.far (OwnVars.far (OwnVars.far (OwnVars.far (OwnVars.far (OwnVars.far (OwnVars.far HYO5.out (by omega)) (by omega)) (by omega)) (by omega)) (by omega)) (by omega)) (by omega)) (by omega)))
    have HB10 := hide_ (show Below w.heap.size w W10 from hW10 ▸ ((((((((HB9.out.setCell (p := ⟨w.heap.size + 1 + 1 + 1, 0, none⟩) (show w.heap.size ≤ w.heap.size + 1 + 1 + 1 by omega) _).setCell (p := ⟨w.heap.size + 1 + 1 + 1, 1, none⟩) (show w.heap.size ≤ w.heap.size + 1 + 1 + 1 by omega) _).setCell (p := ⟨w.heap.size + 1 + 1 + 1, 2, none⟩) (show w.heap.size ≤ w.heap.size + 1 + 1 + 1 by omega) _).setCell (p := ⟨w.heap.size + 1 + 1 + 1, 3, none⟩) (show w.heap.size ≤ w.heap.size + 1 + 1 + 1 by omega) _).setCell (p := ⟨w.heap.size + 1 + 1 + 1, 4, none⟩) (show w.heap.size ≤ w.heap.size + 1 + 1 + 1 by omega) _).setCell (p := ⟨w.heap.size + 1 + 1 + 1, 5, none⟩) (show w.heap.size ≤ w.heap.size + 1 + 1 + 1 by omega) _).setCell (p := ⟨w.heap.size + 1 + 1 + 1, 6, none⟩) (show w.heap.size ≤ w.heap.size + 1 + 1 + 1 by omega) _).setCell (p := ⟨w.heap.size + 1 + 1 + 1, 7, none⟩) (show w.heap.size ≤ w.heap.size + 1 + 1 + 1 by omega) _))
    clear hW10
    refine hK.out _ _ ((by have h := HAT10.out.box.cell; simp only [RegM.box] at h; exact h)) (fun hHeld => ?_)
    clear hK K
    refine wpAnyH_ready (rs := [5]) (by kernel_rfl) (by simp) ?_
    refine AllReadyH.cons rfl (fun K hK => ?_) AllReadyH.nil
    go_simp
    have r0 := (HP10.out.cell 0).trans (show _ = some (.int .i64 0 : Value) from rfl)
    have g0 := HP10.out.frozen 0
    have r1 := (HP10.out.cell 1).trans (show _ = some (.int .u64 0 : Value) from rfl)
    have g1 := HP10.out.frozen 1
    have r2 := (HP10.out.cell 2).trans (show _ = some (.int .i64 0 : Value) from rfl)
    have g2 := HP10.out.frozen 2
    have r3 := (HP10.out.cell 3).trans (show _ = some (.slice none 0 0 : Value) from rfl)
    have g3 := HP10.out.frozen 3
    go_simp
    clear r0 g0 r1 g1 r2 g2 r3 g3
    obtain ⟨W11, hW11⟩ : ∃ W11, ((((W10.setCell ⟨w.heap.size + 1 + 1 + 1 + 1, 0, none⟩ (.int .i64 er5)).setCell ⟨w.heap.size + 1 + 1 + 1 + 1, 1, none⟩ (.int .u64 yi5)).setCell ⟨w.heap.size + 1 + 1 + 1 + 1, 2, none⟩ (.int .i64 ys5)).setCell ⟨w.heap.size + 1 + 1 + 1 + 1, 3, none⟩ (.slice yA5 yl5.length yc5)) = W11 := ⟨_, rfl⟩
    rw [hW11]
    have HAT11 := hide_ (show At7 W11 lo (w.heap.size + 1) ⟨ki4, inc4, st4, ⟨vA4, vc4, vl4⟩, ⟨dA4, dc4, dl4⟩, ⟨oA4, oc4, ol4⟩, la4, ⟨mA4, mc4, ml4⟩⟩ from hW11 ▸ ⟨(BoxAt.apart (BoxAt.apart (BoxAt.apart (BoxAt.apart HAT10.out.box (by omega)) (by omega)) (by omega)) (by omega)), (Fresh.far (Fresh.far (Fresh.far (Fresh.far HAT10.out.fresh (by omega)) (by omega)) (by omega)) (by omega)), HAT10.out.low, by simp [World.setCell]; exact HAT10.out.size⟩)
    have HG11 := hide_ (show BoxAt W11 (w.heap.size + 1 + 1 + 1) #[.int .u8 ki4, .int .u64 inc4, .int .i64 st4, .slice vA4 vl4.length vc4, .slice dA4 dl4.length dc4, .slice oA4 ol4.length oc4, .int .u64 la4, .slice mA4 ml4.length mc4] 31 from hW11 ▸ (BoxAt.apart (BoxAt.apart (BoxAt.apart (BoxAt.apart HG10.out (by omega)) (by omega)) (by omega)) (by omega)))
    have HP11 := hide_ (show BoxAt W11 (w.heap.size + 1 + 1 + 1 + 1) #[.int .i64 er5, .int .u64 yi5, .int .i64 ys5, .slice yA5 yl5.length yc5] 38 from hW11 ▸ (heap_set_all4 HP10.out))
    have HV11 := hide_ (show OwnVars W11 lo ⟨yA5, yc5, yl5⟩ from hW11 ▸ (OwnVars.far (OwnVars.far (OwnVars.far (OwnVars.far HV10.out (by omega)) (by omega)) (by omega)) (by omega)))
    have HB11 := hide_ (show Below w.heap.size w W11 from hW11 ▸ ((((HB10.out.setCell (p := ⟨w.heap.size + 1 + 1 + 1 + 1, 0, none⟩) (show w.heap.size ≤ w.heap.size + 1 + 1 + 1 + 1 by omega) _).setCell (p := ⟨w.heap.size + 1 + 1 + 1 + 1, 1, none⟩) (show w.heap.size ≤ w.heap.size + 1 + 1 + 1 + 1 by omega) _).setCell (p := ⟨w.heap.size + 1 + 1 + 1 + 1, 2, none⟩) (show w.heap.size ≤ w.heap.size + 1 + 1 + 1 + 1 by omega) _).setCell (p := ⟨w.heap.size + 1 + 1 + 1 + 1, 3, none⟩) (show w.heap.size ≤ w.heap.size + 1 + 1 + 1 + 1 by omega) _))
    clear hW11
    refine hK.out _ _ ((by have h := HAT11.out.box.cell; simp only [RegM.box] at h; exact h)) (fun hHeld => ?_)
    clear hK K
    refine wpAnyH_take (i := 6) (oi := ⟨some 10, _, _, _, _, _⟩) (v := ?v6) rfl (by kernel_rfl) (by kernel_rfl) (by kernel_rfl) (fun _ _ _ h => h) (Or.inl ⟨by rfl, ?hy6⟩) (by assumption) ?rest6
    case hy6 => intro w hSw; (try dsimp only at hSw); go_simp <;> with_reducible rfl
    simp only [Act.put, List.setIfInBounds_toArray, List.set_cons_zero, List.set_cons_succ]
    refine wpAnyH_done (by kernel_rfl) ?_ _
    have HGf := hide_ (show BoxAt W11 (w.heap.size + 1 + 1 + 1) #[.int .u8 ki4, .int .u64 inc4, .int .i64 st4, .slice vA4 vl4.length vc4, .slice dA4 dl4.length dc4, .slice oA4 ol4.length oc4, .int .u64 la4, .slice mA4 ml4.length mc4] 31 from HG11.out)
    have HPf := hide_ (show BoxAt W11 (w.heap.size + 1 + 1 + 1 + 1) #[.int .i64 er5, .int .u64 yi5, .int .i64 ys5, .slice yA5 yl5.length yc5] 38 from HP11.out)
    have HFf := hide_ (show Fresh W11 lo ⟨ki4, inc4, st4, ⟨vA4, vc4, vl4⟩, ⟨dA4, dc4, dl4⟩, ⟨oA4, oc4, ol4⟩, la4, ⟨mA4, mc4, ml4⟩⟩ from HAT11.out.fresh)
    have HVf := hide_ (show OwnVars W11 lo ⟨yA5, yc5, yl5⟩ from HV11.out)
    have HBf := hide_ (show Below w.heap.size w W11 from HB11.out)
    have hgc := HGf.out.cell
    have hpc := HPf.out.cell
    go_wp2
    refine bodyPost_ret (v := .tuple #[.agg #[.int .u8 ki4, .int .u64 inc4, .int .i64 st4, .slice vA4 vl4.length vc4, .slice dA4 dl4.length dc4, .slice oA4 ol4.length oc4, .int .u64 la4, .slice mA4 ml4.length mc4], .agg #[.int .i64 er5, .int .u64 yi5, .int .i64 ys5, .slice yA5 yl5.length yc5], .int .i64 0]) (by simp [results, Tryz.results8, go_sem, hgc, hpc]) rfl ?_
    exact ⟨⟨ki4, inc4, st4, ⟨vA4, vc4, vl4⟩, ⟨dA4, dc4, dl4⟩, ⟨oA4, oc4, ol4⟩, la4, ⟨mA4, mc4, ml4⟩⟩, ⟨er5, yi5, ys5, ⟨yA5, yc5, yl5⟩⟩, rfl, HP8.out, HYP5.out, HFf.out.less (by omega), HYN5.out, HVf.out.less (by omega), HBf.out⟩
end Go.Proofs.YtpiikdinphnjbaaGreat
