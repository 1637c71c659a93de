/-
  scrutineerlaw07.EngineMay answers true for every input and leaves its input as it was; no condition.
-/
import Derived.Test.YtccfjaefnejjmaaGreatJ49
import Derived.Test.YtccfjaefnejjmaaGreatJ30
import Derived.Test.YtccfjaefnejjmaaGreatJ05
namespace Go.Proofs.YtccfjaefnejjmaaGreat.engineMay
open Go.ChangeShapes Go.WideShapes Go.ChangeAt Go.RowKit

set_option maxRecDepth 100000 in
set_option maxHeartbeats 12800000 in
theorem walk (o : OpM) (r : RegM) (tg inc0 cell : Int) (w : World) (ho : OpM.ok o) (hr : RegM.ok w w.heap.size r) :
    Calls Tryz.prog 4 #[o.v, r.v, .int .u8 tg, .int .u64 inc0, .int .u64 cell] w fun e w' => e = .returned (.bool true) ∧ Below w.heap.size w w' := by
  have RU := fun (u : World) (h : Below w.heap.size w u) => reg_stable.below hr h
  have HG := hide_ (fun (u : World) (h : Below w.heap.size w u) => GreatG_any r w.heap.size u (RU u h) h.size)
  have HM := hide_ (fun (u : World) => MayO_any o u)
  have HN := hide_ (fun (u : World) => refMayO_any o u ho)
  have HS := hide_ (fun (u : World) (h : Below w.heap.size w u) => Settled_any r tg inc0 cell w.heap.size u (RU u h) h.size)
  have HT := hide_ (fun (u : World) (h : Below w.heap.size w u) => refSettled_any r tg inc0 cell w.heap.size u (RU u h) h.size)
  have HR := hide_ (fun (u : World) (h : Below w.heap.size w u) => refMay7_any r w.heap.size u (RU u h) h.size)
  have HX := hide_ (fun (u : World) (h : Below w.heap.size w u) => Next7_any r tg w.heap.size u (RU u h) h.size)
  have HY := hide_ (fun (u : World) (h : Below w.heap.size w u) => refNext_any r tg w.heap.size u (RU u h) h.size)
  have HA := hide_ (fun (u : World) => awake07_any u)
  obtain ⟨qm, hqm⟩ : ∃ q, mayO o = q := ⟨_, rfl⟩
  obtain ⟨qs, hqs⟩ : ∃ q, setdB tg inc0 cell r.ma.l = q := ⟨_, rfl⟩
  obtain ⟨qr, hqr⟩ : ∃ q, mayG r.p = q := ⟨_, rfl⟩
  obtain ⟨⟨⟨n1, n2, n3, n4⟩, qn⟩, hqn⟩ : ∃ q, nextG r.ou.l tg = q := ⟨_, rfl⟩
  simp only [hqm] at HM HN
  simp only [hqs] at HS HT
  simp only [hqr] at HR
  simp only [hqn] at HX HY
  clear RU hr ho hqm hqs hqr hqn
  obtain ⟨oki, ke, cl, sq, ac, pa, ar, so, oinc, ce⟩ := o
  obtain ⟨ki, inc, st, ⟨vA, vc, vl⟩, ⟨dA, dc, dl⟩, ⟨oA, oc, ol⟩, la, ⟨mA, mc, ml⟩⟩ := r
  simp only [RegM.v, OpM.v, Sl.v] at HG HM HN HS HT HR HX HY ⊢
  obtain ⟨W0, hW0⟩ : ∃ W0, (w.alloc (.cells #[.int .u8 oki, .int .u8 ke, .int .u8 cl, .int .u64 sq, .int .i64 ac, .int .i64 pa, .int .i64 ar, .int .u8 so, .int .u64 oinc, .int .u64 ce] 33)).alloc (.cells #[.int .u8 ki, .int .u64 inc, .int .i64 st, .slice vA vl.length vc, .slice dA dl.length dc, .slice oA ol.length oc, .int .u64 la, .slice mA ml.length mc] 31) = W0 := ⟨_, rfl⟩
  have HXO := hide_ (show BoxAt W0 w.heap.size #[.int .u8 oki, .int .u8 ke, .int .u8 cl, .int .u64 sq, .int .i64 ac, .int .i64 pa, .int .i64 ar, .int .u8 so, .int .u64 oinc, .int .u64 ce] 33 from hW0 ▸ (BoxAt.new w _ _).alloc _)
  have HXR := hide_ (show BoxAt W0 (w.heap.size + 1) #[.int .u8 ki, .int .u64 inc, .int .i64 st, .slice vA vl.length vc, .slice dA dl.length dc, .slice oA ol.length oc, .int .u64 la, .slice mA ml.length mc] 31 from by
    have h := BoxAt.new (w.alloc (.cells #[.int .u8 oki, .int .u8 ke, .int .u8 cl, .int .u64 sq, .int .i64 ac, .int .i64 pa, .int .i64 ar, .int .u8 so, .int .u64 oinc, .int .u64 ce] 33)) #[.int .u8 ki, .int .u64 inc, .int .i64 st, .slice vA vl.length vc, .slice dA dl.length dc, .slice oA ol.length oc, .int .u64 la, .slice mA ml.length mc] 31
    rw [hW0] at h
    simpa using h)
  have HB0 := hide_ (show Below w.heap.size w W0 from hW0 ▸ ((Below.refl _ _).alloc (Nat.le_refl _) _).alloc (by simp) _)
  have HW0 := hide_ hW0
  clear hW0
  go_enter Tryz.func4, Tryz.ntmps4
  go_wp2_with fail
  rw [HW0.out]
  refine (HG.out _ HB0.out).mono ?_
  rintro e1 w1 ⟨bg, rfl, hb1, -⟩
  have HO1 := hide_ (HXO.out.below hb1)
  have HR1 := hide_ (HXR.out.below hb1)
  have HB1 := hide_ (HB0.out.trans (hb1.mono HB0.out.size))
  clear hb1
  have hcr1 := HR1.out.cell
  have hzr1 := HR1.out.lt
  have hco1 := HO1.out.cell
  have hzo1 := HO1.out.lt
  cases bg with
  | true =>
    go_wp2_with fail
    refine (HA.out _).mono ?_
    rintro e2 w2 ⟨rfl, hb2⟩
    have HB2 := hide_ (HB1.out.trans (hb2.mono HB1.out.size))
    go_wp2
    go_ret
    exact ⟨rfl, HB2.out⟩
  | false =>
  go_upto_region 3 with fail
  clear hcr1 hzr1 hco1 hzo1
  have HO_wd := hide_ (HO1.out.below (Below.refl _ _).drew)
  have HR_wd := hide_ (HR1.out.below (Below.refl _ _).drew)
  have HB_wd := hide_ (HB1.out.trans ((Below.refl _ _).drew.mono HB1.out.size))
  have dm : (qm != qm) = false := by simp
  have ds : (qs != qs) = false := by simp
  refine wp_region_held_drew (S := fun w' => (∀ i : Nat, w'.cell? ⟨w.heap.size, i, none⟩ = (#[.int .u8 oki, .int .u8 ke, .int .u8 cl, .int .u64 sq, .int .i64 ac, .int .i64 pa, .int .i64 ar, .int .u8 so, .int .u64 oinc, .int .u64 ce] : Array Value)[i]?) ∧ (∀ i : Nat, w'.cell? ⟨w.heap.size + 1, i, none⟩ = (#[.int .u8 ki, .int .u64 inc, .int .i64 st, .slice vA vl.length vc, .slice dA dl.length dc, .slice oA ol.length oc, .int .u64 la, .slice mA ml.length mc] : Array Value)[i]?)) (by kernel_rfl) (⟨fun i => HO_wd.out.cell i, fun i => HR_wd.out.cell i⟩) (fun hHeld => ?_)
  refine wpAnyH_take (i := 0) (oi := ⟨some 18, _, _, _, _, _⟩) (v := ?v1) rfl (by kernel_rfl) (by kernel_rfl) (by kernel_rfl) (fun _ _ _ h => h) (Or.inl ⟨by rfl, ?hy1⟩) (by assumption) ?rest1
  case hy1 => intro w hSw; (try dsimp only at hSw); go_simp <;> with_reducible rfl
  simp only [Act.put, List.setIfInBounds_toArray, List.set_cons_zero, List.set_cons_succ]
  refine wpAnyH_take (i := 2) (oi := ⟨some 20, _, _, _, _, _⟩) (v := ?v2) rfl (by kernel_rfl) (by kernel_rfl) (by kernel_rfl) (fun _ _ _ h => h) (Or.inl ⟨by rfl, ?hy2⟩) (by assumption) ?rest2
  case hy2 => intro w hSw; (try dsimp only at hSw); go_simp <;> with_reducible rfl
  simp only [Act.put, List.setIfInBounds_toArray, List.set_cons_zero, List.set_cons_succ]
  refine wpAnyH_ready (rs := [1]) (by kernel_rfl) (by simp) ?_
  refine AllReadyH.cons rfl (fun K hK => ?_) AllReadyH.nil
  go_simp
  go_wp2_with fail
  refine (HM.out _).mono ?_
  rintro en wa ⟨rfl, hb⟩
  have HO_wa := hide_ (HO_wd.out.below hb)
  have HR_wa := hide_ (HR_wd.out.below hb)
  have HB_wa := hide_ (HB_wd.out.trans (hb.mono HB_wd.out.size))
  clear hb
  refine hK.out _ _ (⟨fun i => HO_wa.out.cell i, fun i => HR_wa.out.cell i⟩) (fun hHeld => ?_)
  clear hK K
  refine wpAnyH_ready (rs := [3]) (by kernel_rfl) (by simp) ?_
  refine AllReadyH.cons rfl (fun K hK => ?_) AllReadyH.nil
  go_simp
  go_wp2_with fail
  refine (HN.out _).mono ?_
  rintro en wb ⟨rfl, hb⟩
  have HO_wb := hide_ (HO_wa.out.below hb)
  have HR_wb := hide_ (HR_wa.out.below hb)
  have HB_wb := hide_ (HB_wa.out.trans (hb.mono HB_wa.out.size))
  clear hb
  refine hK.out _ _ (⟨fun i => HO_wb.out.cell i, fun i => HR_wb.out.cell i⟩) (fun hHeld => ?_)
  clear hK K
  refine wpAnyH_take (i := 4) (oi := ⟨some 22, _, _, _, _, _⟩) (v := ?v3) rfl (by kernel_rfl) (by kernel_rfl) (by kernel_rfl) (fun _ _ _ h => h) (Or.inl ⟨by rfl, ?hy3⟩) (by assumption) ?rest3
  case hy3 => intro w hSw; (try dsimp only at hSw); go_simp <;> with_reducible rfl
  simp only [Act.put, List.setIfInBounds_toArray, List.set_cons_zero, List.set_cons_succ]
  refine wpAnyH_take (i := 5) (oi := ⟨some 23, _, _, _, _, _⟩) (v := ?v4) rfl (by kernel_rfl) (by kernel_rfl) (by kernel_rfl) (fun _ _ _ h => h) (Or.inl ⟨by rfl, ?hy4⟩) (by assumption) ?rest4
  case hy4 => intro w hSw; (try dsimp only at hSw); go_simp <;> with_reducible rfl
  simp only [Act.put, List.setIfInBounds_toArray, List.set_cons_zero, List.set_cons_succ]
  refine wpAnyH_take (i := 6) (oi := ⟨some 24, _, _, _, _, _⟩) (v := ?v5) rfl (by kernel_rfl) (by kernel_rfl) (by kernel_rfl) (fun _ _ _ h => h) (Or.inl ⟨by rfl, ?hy5⟩) (by assumption) ?rest5
  case hy5 => intro w hSw; (try dsimp only at hSw); go_simp <;> with_reducible rfl
  simp only [Act.put, List.setIfInBounds_toArray, List.set_cons_zero, List.set_cons_succ]
  refine wpAnyH_take (i := 7) (oi := ⟨some 25, _, _, _, _, _⟩) (v := ?v6) rfl (by kernel_rfl) (by kernel_rfl) (by kernel_rfl) (fun _ _ _ h => h) (Or.inl ⟨by rfl, ?hy6⟩) (by assumption) ?rest6
  case hy6 => intro w hSw; (try dsimp only at hSw); go_simp <;> with_reducible rfl
  simp only [Act.put, List.setIfInBounds_toArray, List.set_cons_zero, List.set_cons_succ]
  refine wpAnyH_take (i := 8) (oi := ⟨some 26, _, _, _, _, _⟩) (v := ?v7) rfl (by kernel_rfl) (by kernel_rfl) (by kernel_rfl) (fun _ _ _ h => h) (Or.inl ⟨by rfl, ?hy7⟩) (by assumption) ?rest7
  case hy7 => intro w hSw; (try dsimp only at hSw); go_simp <;> with_reducible rfl
  simp only [Act.put, List.setIfInBounds_toArray, List.set_cons_zero, List.set_cons_succ]
  refine wpAnyH_take (i := 9) (oi := ⟨some 27, _, _, _, _, _⟩) (v := ?v8) rfl (by kernel_rfl) (by kernel_rfl) (by kernel_rfl) (fun _ _ _ h => h) (Or.inl ⟨by rfl, ?hy8⟩) (by assumption) ?rest8
  case hy8 => intro w hSw; (try dsimp only at hSw); go_simp <;> with_reducible rfl
  simp only [Act.put, List.setIfInBounds_toArray, List.set_cons_zero, List.set_cons_succ]
  refine wpAnyH_take (i := 11) (oi := ⟨some 29, _, _, _, _, _⟩) (v := ?v9) rfl (by kernel_rfl) (by kernel_rfl) (by kernel_rfl) (fun _ _ _ h => h) (Or.inl ⟨by rfl, ?hy9⟩) (by assumption) ?rest9
  case hy9 => intro w hSw; (try dsimp only at hSw); go_simp <;> with_reducible rfl
  simp only [Act.put, List.setIfInBounds_toArray, List.set_cons_zero, List.set_cons_succ]
  refine wpAnyH_take (i := 12) (oi := ⟨some 30, _, _, _, _, _⟩) (v := ?v10) rfl (by kernel_rfl) (by kernel_rfl) (by kernel_rfl) (fun _ _ _ h => h) (Or.inl ⟨by rfl, ?hy10⟩) (by assumption) ?rest10
  case hy10 => intro w hSw; (try dsimp only at hSw); go_simp <;> with_reducible rfl
  simp only [Act.put, List.setIfInBounds_toArray, List.set_cons_zero, List.set_cons_succ]
  refine wpAnyH_take (i := 13) (oi := ⟨some 31, _, _, _, _, _⟩) (v := ?v11) rfl (by kernel_rfl) (by kernel_rfl) (by kernel_rfl) (fun _ _ _ h => h) (Or.inl ⟨by rfl, ?hy11⟩) (by assumption) ?rest11
  case hy11 => intro w hSw; (try dsimp only at hSw); go_simp <;> with_reducible rfl
  simp only [Act.put, List.setIfInBounds_toArray, List.set_cons_zero, List.set_cons_succ]
  refine wpAnyH_take (i := 14) (oi := ⟨some 32, _, _, _, _, _⟩) (v := ?v12) rfl (by kernel_rfl) (by kernel_rfl) (by kernel_rfl) (fun _ _ _ h => h) (Or.inl ⟨by rfl, ?hy12⟩) (by assumption) ?rest12
  case hy12 => intro w hSw; (try dsimp only at hSw); go_simp <;> with_reducible rfl
  simp only [Act.put, List.setIfInBounds_toArray, List.set_cons_zero, List.set_cons_succ]
  refine wpAnyH_ready (rs := [10]) (by kernel_rfl) (by simp) ?_
  refine AllReadyH.cons rfl (fun K hK => ?_) AllReadyH.nil
  go_simp
  go_wp2_with fail
  refine (HS.out _ HB_wb.out).mono ?_
  rintro en wc ⟨rfl, hb⟩
  have HO_wc := hide_ (HO_wb.out.below hb)
  have HR_wc := hide_ (HR_wb.out.below hb)
  have HB_wc := hide_ (HB_wb.out.trans (hb.mono HB_wb.out.size))
  clear hb
  refine hK.out _ _ (⟨fun i => HO_wc.out.cell i, fun i => HR_wc.out.cell i⟩) (fun hHeld => ?_)
  clear hK K
  refine wpAnyH_ready (rs := [15]) (by kernel_rfl) (by simp) ?_
  refine AllReadyH.cons rfl (fun K hK => ?_) AllReadyH.nil
  go_simp
  go_wp2_with fail
  refine (HT.out _ HB_wc.out).mono ?_
  rintro en we ⟨rfl, hb⟩
  have HO_we := hide_ (HO_wc.out.below hb)
  have HR_we := hide_ (HR_wc.out.below hb)
  have HB_we := hide_ (HB_wc.out.trans (hb.mono HB_wc.out.size))
  clear hb
  refine hK.out _ _ (⟨fun i => HO_we.out.cell i, fun i => HR_we.out.cell i⟩) (fun hHeld => ?_)
  clear hK K
  refine wpAnyH_take (i := 16) (oi := ⟨some 34, _, _, _, _, _⟩) (v := ?v13) rfl (by kernel_rfl) (by kernel_rfl) (by kernel_rfl) (fun _ _ _ h => h) (Or.inl ⟨by rfl, ?hy13⟩) (by assumption) ?rest13
  case hy13 => intro w hSw; (try dsimp only at hSw); go_simp <;> with_reducible rfl
  simp only [Act.put, List.setIfInBounds_toArray, List.set_cons_zero, List.set_cons_succ]
  refine wpAnyH_take (i := 17) (oi := ⟨some 35, _, _, _, _, _⟩) (v := ?v14) rfl (by kernel_rfl) (by kernel_rfl) (by kernel_rfl) (fun _ _ _ h => h) (Or.inl ⟨by rfl, ?hy14⟩) (by assumption) ?rest14
  case hy14 => intro w hSw; (try dsimp only at hSw); go_simp <;> with_reducible rfl
  simp only [Act.put, List.setIfInBounds_toArray, List.set_cons_zero, List.set_cons_succ]
  refine wpAnyH_done (by kernel_rfl) ?_ _
  have hco := HO_we.out.cell
  have hcr := HR_we.out.cell
  have hzo := HO_we.out.lt
  have hzr := HR_we.out.lt
  go_wp2_with fail
  refine (HR.out _ HB_we.out).mono ?_
  rintro e5 w5 ⟨rfl, hb5⟩
  have HR5 := hide_ (HR_we.out.below hb5)
  have HB5 := hide_ (HB_we.out.trans (hb5.mono HB_we.out.size))
  clear hco hcr hzo hzr hb5
  have hcr := HR5.out.cell
  have hzr := HR5.out.lt
  cases qr with
  | false =>
    go_wp2_with fail
    refine (HA.out _).mono ?_
    rintro e6 w6 ⟨rfl, hb6⟩
    have HB6 := hide_ (HB5.out.trans (hb6.mono HB5.out.size))
    go_wp2
    go_ret
    exact ⟨rfl, HB6.out⟩
  | true =>
  go_wp2_with fail
  refine (HX.out _ HB5.out).mono ?_
  rintro e6 w6 ⟨rfl, hb6⟩
  simp only [celV]
  obtain ⟨W7, hW7⟩ : ∃ W7, w6.alloc (.cells #[.int .u64 n1, .int .u8 n2, .int .i64 n3, .int .i64 n4] 50) = W7 := ⟨_, rfl⟩
  have hb7 : Below w5.heap.size w5 W7 := hW7 ▸ hb6.alloc hb6.size _
  have HX7 := hide_ (show BoxAt W7 w6.heap.size #[.int .u64 n1, .int .u8 n2, .int .i64 n3, .int .i64 n4] 50 from hW7 ▸ BoxAt.new _ _ _)
  have HR7 := hide_ (HR5.out.below hb7)
  have HB7 := hide_ (HB5.out.trans (hb7.mono HB5.out.size))
  have HW7 := hide_ hW7
  have hcr6 := (HR5.out.below hb6).cell
  have hzr6 := (HR5.out.below hb6).lt
  clear hcr hzr hb6 hb7 hW7
  go_wp2_with fail
  rw [HW7.out]
  clear hcr6 hzr6
  refine (HY.out _ HB7.out).mono ?_
  rintro e8 w8 ⟨rfl, hb8⟩
  simp only [celV]
  have HX8 := hide_ (HX7.out.below hb8)
  have HB8 := hide_ (HB7.out.trans (hb8.mono HB7.out.size))
  have hcx := (HX8.out.alloc (.cells #[.int .u64 n1, .int .u8 n2, .int .i64 n3, .int .i64 n4] 50)).cell
  have hzx := HX8.out.lt
  have HB9 := hide_ (HB8.out.alloc HB8.out.size (.cells #[.int .u64 n1, .int .u8 n2, .int .i64 n3, .int .i64 n4] 50))
  have dq : (qn == qn) = true := by simp
  clear hb8
  go_wp2_with fail
  refine (HA.out _).mono ?_
  rintro e9 w9 ⟨rfl, hb9⟩
  have HB10 := hide_ (HB9.out.trans (hb9.mono HB9.out.size))
  go_wp2
  go_ret
  exact ⟨rfl, HB10.out⟩

theorem own : ownKnob Tryz.prog.godebug = none := by kernel_rfl
theorem laid : laidOutB Tryz.prog = true := by kernel_rfl

set_option maxRecDepth 100000 in
theorem contract (H : Type) (enc : TypeId × Value → H) (W : World) (base : Nat) (args : Array Value) (ds gs : List (DataW H)) (before : List MemPlace)
    (hval : ∀ (j : Nat) t v, Tryz.f4.params[j]? = some t → args[j]? = some v → Value.okWide Tryz.prog W .any base t v)
    (hW : DataW.Whole enc Tryz.prog Tryz.f4.params.toList Rows.engineMaySpec.vars false W args.toList ds gs before) :
    Calls Tryz.prog 4 args W fun e W' => ∃ v, e = .returned v ∧ Rows.engineMaySpec.post enc Tryz.prog Tryz.f4 false true false false W args v W' := by
  have hW' := hW
  obtain ⟨p, q, hA0, hV, rfl, hfz, hnd⟩ := hW
  have hA : DataW.TrodAll enc Tryz.prog W 0 (fun _ => true) true Tryz.f4.params.toList args.toList ds p := hA0
  rw [Tryz.params4] at hA hval
  obtain ⟨v0, vs0, d0, ds0, p0, q0, hargs, rfl, rfl, h0, r0⟩ := trodAll_cons hA
  obtain ⟨v1, vs1, d1, ds1, p1, q1, rfl, rfl, rfl, h1, r1⟩ := trodAll_cons r0
  obtain ⟨v2, vs2, d2, ds2, p2, q2, rfl, rfl, rfl, h2, r2⟩ := trodAll_cons r1
  obtain ⟨v3, vs3, d3, ds3, p3, q3, rfl, rfl, rfl, h3, r3⟩ := trodAll_cons r2
  obtain ⟨v4, vs4, d4, ds4, p4, q4, rfl, rfl, rfl, h4, r4⟩ := trodAll_cons r3
  obtain ⟨rfl, rfl, rfl⟩ := trodAll_nil r4
  obtain rfl : args = #[v0, v1, v2, v3, v4] := by cases args; simp_all
  obtain ⟨rfl, rfl⟩ := trodVars_none hV
  obtain ⟨u0, rfl, bu0⟩ := open_op (hval 0 33 v0 rfl rfl) h0
  obtain ⟨u1, rfl, bu1⟩ := open_reg (hval 1 31 v1 rfl rfl) h1
  obtain ⟨a2, rfl, rfl, rfl, w2⟩ := open_int Tryz.underlying5 (hval 2 5 v2 rfl rfl) h2
  have b2 : 0 ≤ a2 ∧ a2 ≤ 255 := by simpa [Lit.wf, IntKind.min, IntKind.max, IntKind.signed, IntKind.bits] using w2
  obtain ⟨a3, rfl, rfl, rfl, w3⟩ := open_int Tryz.underlying25 (hval 3 25 v3 rfl rfl) h3
  have b3 : 0 ≤ a3 ∧ a3 ≤ 18446744073709551615 := by simpa [Lit.wf, IntKind.min, IntKind.max, IntKind.signed, IntKind.bits] using w3
  obtain ⟨a4, rfl, rfl, rfl, w4⟩ := open_int Tryz.underlying25 (hval 4 25 v4 rfl rfl) h4
  have b4 : 0 ≤ a4 ∧ a4 ≤ 18446744073709551615 := by simpa [Lit.wf, IntKind.min, IntKind.max, IntKind.signed, IntKind.bits] using w4
  have fin : ∀ (e : Ending) (W' : World), e = .returned (.bool true) ∧ Below W.heap.size W W' → ∃ v, e = .returned v ∧ Rows.engineMaySpec.post enc Tryz.prog Tryz.f4 false true false false W #[OpM.v u0, RegM.v u1, .int .u8 a2, .int .u64 a3, .int .u64 a4] v W' :=
    fun e W' ⟨he, hb⟩ => ⟨_, he, law_post laid (by kernel_rfl) rfl rfl rfl Tryz.underlying4 hW' hb⟩
  exact (walk u0 u1 a2 a3 a4 W bu0 bu1).mono fin

set_option maxRecDepth 100000 in
theorem lifted (os : Os) (started : os.Started) (H : Type) (enc : TypeId × Value → H) :
    ReturnsInHanded {} Tryz.checked os 4 .any (Rows.engineMaySpec.pre6 enc Tryz.prog Tryz.f4 Rows.engineMayRow.domain false) (Rows.engineMaySpec.post enc Tryz.prog Tryz.f4 false true false false) := by
  refine returnsInHanded_of_change (C := Tryz.checked) (s := Rows.engineMaySpec) own started (by kernel_rfl) Tryz.func4
    (ChangeSpec.witness6 (enc := enc) (C := Tryz.checked) false ⟨#[], #[.agg #[.int .u8 0, .int .u8 0, .int .u8 0, .int .u64 0, .int .i64 0, .int .i64 0, .int .i64 0, .int .u8 0, .int .u64 0, .int .u64 0], .agg #[.int .u8 0, .int .u64 0, .int .i64 0, .slice none 0 0, .slice none 0 0, .slice none 0 0, .int .u64 0, .slice none 0 0], .int .u8 0, .int .u64 0, .int .u64 0], []⟩ 8 (by kernel_rfl) (by kernel_rfl) (by kernel_rfl) (by kernel_rfl)) ?_
  intro W base args ds gs before hval hW _ _
  exact contract H enc W base args ds gs before hval hW

theorem proved : Rows.EngineMaySaid :=
  OpenClaim.holds_of_wide 4 Tryz.f4 rfl rfl rfl rfl rfl rfl rfl ⟨rfl, rfl, rfl, rfl, rfl⟩ rfl rfl rfl rfl rfl (by kernel_rfl) Tryz.func4 (by kernel_rfl)
    (of_decide_eq_true (by kernel_rfl)) (by unfold Func.isWrapper; first | (rw [if_pos (by decide +kernel)]; kernel_rfl) | (rw [if_neg (by decide +kernel)]; exact ⟨rfl, rfl⟩))
    (fun os started H enc _ => lifted os started H enc)

end Go.Proofs.YtccfjaefnejjmaaGreat.engineMay
