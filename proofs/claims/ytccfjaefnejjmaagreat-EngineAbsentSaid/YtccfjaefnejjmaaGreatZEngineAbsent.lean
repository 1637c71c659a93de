/-
  scrutineerlaw07.EngineAbsent answers true for every input and leaves its input as it was; no condition.
-/
import Derived.Test.YtccfjaefnejjmaaGreatJ49
namespace Go.Proofs.YtccfjaefnejjmaaGreat.engineAbsent
open Go.ChangeShapes Go.WideShapes Go.ChangeAt Go.RowKit

set_option maxRecDepth 100000 in
set_option maxHeartbeats 12800000 in
theorem walk (ts tv : Int) (t : Sl RuM) (o : OpM) (cn : Int) (w : World) (ht : rusOk w w.heap.size t) (ho : OpM.ok o) (hc : U64 cn) :
    Calls Tryz.prog 9 #[tabV ts tv t, o.v, .int .u64 cn] w fun e w' => e = .returned (.bool true) ∧ Below w.heap.size w w' := by
  have TU := fun (u : World) (h : Below w.heap.size w u) => rus_stable.below ht h
  have HG := hide_ (fun (u : World) (h : Below w.heap.size w u) => Great_any ts tv t w.heap.size u (TU u h) h.size)
  have HR := hide_ (fun (u : World) (h : Below w.heap.size w u) => refRight_any ts tv t zeroM o cn w.heap.size u (TU u h) (zeroM_ok _ _) ho h.size)
  have HA := hide_ (fun (u : World) => awake07_any u)
  have HAP := hide_ (fun (u : World) (h : Below w.heap.size w u) (hq : rightB ts tv t.l zeroP o cn = true) => apply_right ts tv t zeroM o cn w.heap.size u (TU u h) (zeroM_ok _ _) ho hc h.size hq (by simp [zeroM]) (by simp [zeroM]) (by simp [zeroM]) (by simp [zeroM]) (by simp [zeroM]))
  have HSD := hide_ (fun (u : World) (x : RegM) (hx : RegM.ok u u.heap.size x) => refSameG_any x zeroM u.heap.size u hx (zeroM_ok _ _) (Nat.le_refl _))
  have HM1 := hide_ (fun (h : rightB ts tv t.l zeroP o cn = true) (hk : o.ki ≠ 1) => apply_absent h hk)
  have HM2 := hide_ (fun (_ : rightB ts tv t.l zeroP o cn = true) (hk : o.ki = 1) => apply_makes (ts := ts) (tv := tv) (tl := t.l) (r := zeroP) (o := o) (cn := cn) rfl hk (by simp [zeroP]))
  have HTV := hide_ (fun (h : rightB ts tv t.l zeroP o cn = true) => (mayT_num (rightB_lens h).2.2.1).2.1)
  rw [zeroM_p] at HR HAP
  obtain ⟨qr, hqr⟩ : ∃ q, rightB ts tv t.l zeroP o cn = q := ⟨_, rfl⟩
  simp only [hqr] at HR HAP HM1 HM2 HTV
  obtain ⟨AP, hAP⟩ : ∃ A, applyG ts tv t.l zeroP o cn = A := ⟨_, rfl⟩
  simp only [hAP] at HAP HM1 HM2
  clear TU ht ho hc hqr hAP
  obtain ⟨tA, tc, tl⟩ := t
  obtain ⟨oki, ke, cl, sq, ac, pa, ar, so, oinc, ce⟩ := o
  simp only [tabV, RegM.v, OpM.v, Sl.v, zeroM, List.length_nil] at HG HR HAP HSD HM1 HM2 ⊢
  obtain ⟨W0, hW0⟩ : ∃ W0, (w.alloc (.cells #[.int .i64 ts, .int .i64 tv, .slice tA tl.length tc] 24)).alloc (.cells #[.int .u8 oki, .int .u8 ke, .int .u8 cl, .int .u64 sq, .int .i64 ac, .int .i64 pa, .int .i64 ar, .int .u8 so, .int .u64 oinc, .int .u64 ce] 33) = W0 := ⟨_, rfl⟩
  have HXT := hide_ (show BoxAt W0 w.heap.size #[.int .i64 ts, .int .i64 tv, .slice tA tl.length tc] 24 from hW0 ▸ (BoxAt.new w _ _).alloc _)
  have HXO := hide_ (show BoxAt W0 (w.heap.size + 1) #[.int .u8 oki, .int .u8 ke, .int .u8 cl, .int .u64 sq, .int .i64 ac, .int .i64 pa, .int .i64 ar, .int .u8 so, .int .u64 oinc, .int .u64 ce] 33 from by
    have h := BoxAt.new (w.alloc (.cells #[.int .i64 ts, .int .i64 tv, .slice tA tl.length tc] 24)) #[.int .u8 oki, .int .u8 ke, .int .u8 cl, .int .u64 sq, .int .i64 ac, .int .i64 pa, .int .i64 ar, .int .u8 so, .int .u64 oinc, .int .u64 ce] 33
    rw [hW0] at h
    simpa using h)
  have HB0 := hide_ (show Below w.heap.size w W0 from hW0 ▸ ((Below.refl _ _).alloc (Nat.le_refl _) _).alloc (by simp) _)
  have HW0 := hide_ hW0
  clear hW0
  go_enter Tryz.func9, Tryz.ntmps9
  go_wp2_with fail
  rw [HW0.out]
  refine (HG.out _ HB0.out).mono ?_
  rintro e1 w1 ⟨b1, rfl, hb1⟩
  have HB1 := hide_ (HB0.out.trans (hb1.mono HB0.out.size))
  have HT1 := hide_ (HXT.out.below hb1)
  have HO1 := hide_ (HXO.out.below hb1)
  clear hb1
  have hct := HT1.out.cell
  have hco := HO1.out.cell
  have zt := HT1.out.lt
  have zo := HO1.out.lt
  cases b1 with
  | true =>
    go_wp2_with fail
    refine (HA.out _).mono ?_
    rintro e9 w9 ⟨rfl, hb9⟩
    have HB9 := hide_ (HB1.out.trans (hb9.mono HB1.out.size))
    go_wp2
    go_ret
    exact ⟨rfl, HB9.out⟩
  | false =>
  go_wp2_with fail
  refine (HR.out _ HB1.out).mono ?_
  rintro e2 w2 ⟨rfl, hb2⟩
  have HB2 := hide_ (HB1.out.trans (hb2.mono HB1.out.size))
  have HT2 := hide_ (HT1.out.below hb2)
  have HO2 := hide_ (HO1.out.below hb2)
  clear hb2 hct hco zt zo
  have hct := HT2.out.cell
  have hco := HO2.out.cell
  have zt := HT2.out.lt
  have zo := HO2.out.lt
  cases qr with
  | false =>
    go_wp2_with fail
    refine (HA.out _).mono ?_
    rintro e9 w9 ⟨rfl, hb9⟩
    have HB9 := hide_ (HB2.out.trans (hb9.mono HB2.out.size))
    go_wp2
    go_ret
    exact ⟨rfl, HB9.out⟩
  | true =>
  have hqt : True := trivial
  go_wp2_with fail
  clear hct hco zt zo
  refine (HAP.out w2 HB2.out (by first | trivial | rfl)).mono ?_
  rintro e3 w3 ⟨x, y, rfl, hxp, hyp, hfr, -, -, hb3⟩
  have HB3 := hide_ (HB2.out.trans (hb3.mono HB2.out.size))
  have HT3 := hide_ (HT2.out.below hb3)
  have HO3 := hide_ (HO2.out.below hb3)
  have HFR := hide_ hfr.ok
  have HXP := hide_ hxp
  have HYP := hide_ hyp
  have hs3 : w.heap.size + 2 ≤ w3.heap.size := by have := HO3.out.lt; omega
  clear hb3 hfr hxp hyp
  obtain ⟨xki, xinc, xst, ⟨xvA, xvc, xvl⟩, ⟨xdA, xdc, xdl⟩, ⟨xoA, xoc, xol⟩, xla, ⟨xmA, xmc, xml⟩⟩ := x
  obtain ⟨per, pyi, pys, ⟨pyA, pyc, pyl⟩⟩ := y
  obtain ⟨nv, hnv⟩ : ∃ n, xvl.length = n := ⟨_, rfl⟩
  simp only [RegM.v, RepM.v, Sl.v, hnv]
  obtain ⟨W4, hW4⟩ : ∃ W4, (w3.alloc (.cells #[.int .u8 xki, .int .u64 xinc, .int .i64 xst, .slice xvA nv xvc, .slice xdA xdl.length xdc, .slice xoA xol.length xoc, .int .u64 xla, .slice xmA xml.length xmc] 31)).alloc (.cells #[.int .i64 per, .int .u64 pyi, .int .i64 pys, .slice pyA pyl.length pyc] 38) = W4 := ⟨_, rfl⟩
  have hb4 : Below w3.heap.size w3 W4 := hW4 ▸ ((Below.refl _ _).alloc (Nat.le_refl _) _).alloc (by simp) _
  have HX4 := hide_ (show BoxAt W4 w3.heap.size #[.int .u8 xki, .int .u64 xinc, .int .i64 xst, .slice xvA nv xvc, .slice xdA xdl.length xdc, .slice xoA xol.length xoc, .int .u64 xla, .slice xmA xml.length xmc] 31 from hW4 ▸ (BoxAt.new w3 _ _).alloc _)
  have HY4 := hide_ (show BoxAt W4 (w3.heap.size + 1) #[.int .i64 per, .int .u64 pyi, .int .i64 pys, .slice pyA pyl.length pyc] 38 from by
    have h := BoxAt.new (w3.alloc (.cells #[.int .u8 xki, .int .u64 xinc, .int .i64 xst, .slice xvA nv xvc, .slice xdA xdl.length xdc, .slice xoA xol.length xoc, .int .u64 xla, .slice xmA xml.length xmc] 31)) #[.int .i64 per, .int .u64 pyi, .int .i64 pys, .slice pyA pyl.length pyc] 38
    rw [hW4] at h
    simpa using h)
  have HT4 := hide_ (HT3.out.below hb4)
  have HO4 := hide_ (HO3.out.below hb4)
  have HB4 := hide_ (HB3.out.trans (hb4.mono HB3.out.size))
  have HFX4 := hide_ (show RegM.ok W4 W4.heap.size ⟨xki, xinc, xst, ⟨xvA, xvc, xvl⟩, ⟨xdA, xdc, xdl⟩, ⟨xoA, xoc, xol⟩, xla, ⟨xmA, xmc, xml⟩⟩ from reg_stable.more (reg_stable.below HFR.out hb4) hb4.size)
  have HW4 := hide_ hW4
  have HNV := hide_ hnv
  clear hW4 hb4 hnv
  have hco := HO3.out.cell
  have hct := HT3.out.cell
  have zt := HT3.out.lt
  have zo := HO3.out.lt
  by_cases k1 : oki = 1
  case neg =>
    have d1 : (oki != 1) = true := bne_iff_ne.2 k1
    obtain ⟨m1, m2⟩ := HM1.out (by first | trivial | rfl) k1
    have HDX := hide_ (show decide (RegM.p ⟨xki, xinc, xst, ⟨xvA, xvc, xvl⟩, ⟨xdA, xdc, xdl⟩, ⟨xoA, xoc, xol⟩, xla, ⟨xmA, xmc, xml⟩⟩ = zeroM.p) = true from by rw [decide_eq_true_eq, HXP.out, m1]; rfl)
    have hper : per = if oki = 6 ∨ oki = 7 then 0 else 11 := by
      have h1 := HYP.out
      rw [← h1] at m2
      exact m2
    have HPER := hide_ hper
    have HKK := hide_ (show ∀ (b7 b6 e : Bool), (oki != 7) = b7 → (oki != 6) = b6 → (per == 11) = e → e = (b7 && b6) from fun b7 b6 e h7 h6 he => by
      rw [← h7, ← h6, ← he, hper]
      by_cases h : oki = 6 ∨ oki = 7
      · rw [if_pos h]
        rcases h with h | h <;> simp [h]
      · rw [if_neg h]
        have a6 : oki ≠ 6 := fun e => h (.inl e)
        have a7 : oki ≠ 7 := fun e => h (.inr e)
        simp [a6, a7])
    obtain ⟨b7, hb7⟩ : ∃ b, (oki != 7) = b := ⟨_, rfl⟩
    obtain ⟨b6, hb6⟩ : ∃ b, (oki != 6) = b := ⟨_, rfl⟩
    obtain ⟨be, hbe⟩ : ∃ b, (per == 11) = b := ⟨_, rfl⟩
    have hbb := HKK.out b7 b6 be hb7 hb6 hbe
    clear m1 m2 hper k1
    go_upto_region 7 with fail
    rw [HW4.out]
    clear hco hct zt zo
    have hco := HO4.out.cell
    have hcx := HX4.out.cell
    have hcy := HY4.out.cell
    have zo := HO4.out.lt
    have zx := HX4.out.lt
    have zy := HY4.out.lt
    go_wp2_with fail
    have hsx := HSD.out W4 ⟨xki, xinc, xst, ⟨xvA, xvc, xvl⟩, ⟨xdA, xdc, xdl⟩, ⟨xoA, xoc, xol⟩, xla, ⟨xmA, xmc, xml⟩⟩ HFX4.out
    simp only [HNV.out] at hsx
    refine hsx.mono ?_
    rintro e5 w5 ⟨rfl, hb5⟩
    have hdx := HDX.out
    simp only [zeroM] at hdx
    rw [hdx]
    have HB5 := hide_ (HB4.out.trans (hb5.mono HB4.out.size))
    have HO5 := hide_ (HO4.out.below hb5)
    have HY5 := hide_ (HY4.out.below hb5)
    clear hb5 hco hcx hcy zo zx zy hsx hdx
    have hco := HO5.out.cell
    have hcy := HY5.out.cell
    have zo := HO5.out.lt
    have zy := HY5.out.lt
    subst hbb
    cases b7 with
    | false =>
      have dq : ((false && b6) == false) = true := by simp
      cases b6 with
      | false =>
        simp only [Bool.and_false] at hbe
        go_wp2_with fail
        refine (HA.out _).mono ?_
        rintro e9 w9 ⟨rfl, hb9⟩
        have HB9 := hide_ (HB5.out.trans (hb9.mono HB5.out.size))
        go_wp2
        go_ret
        exact ⟨rfl, HB9.out⟩
      | true =>
        simp only [Bool.and_true] at hbe
        go_wp2_with fail
        refine (HA.out _).mono ?_
        rintro e9 w9 ⟨rfl, hb9⟩
        have HB9 := hide_ (HB5.out.trans (hb9.mono HB5.out.size))
        go_wp2
        go_ret
        exact ⟨rfl, HB9.out⟩
    | true =>
      cases b6 with
      | false =>
        simp only [Bool.and_false] at hbe
        go_wp2_with fail
        refine (HA.out _).mono ?_
        rintro e9 w9 ⟨rfl, hb9⟩
        have HB9 := hide_ (HB5.out.trans (hb9.mono HB5.out.size))
        go_wp2
        go_ret
        exact ⟨rfl, HB9.out⟩
      | true =>
        simp only [Bool.and_true] at hbe
        go_wp2_with fail
        refine (HA.out _).mono ?_
        rintro e9 w9 ⟨rfl, hb9⟩
        have HB9 := hide_ (HB5.out.trans (hb9.mono HB5.out.size))
        go_wp2
        go_ret
        exact ⟨rfl, HB9.out⟩
  subst k1
  obtain ⟨m1, m2, m3, -, -, -, m7, -⟩ := HM2.out (by first | trivial | rfl) (by first | trivial | rfl)
  obtain ⟨t1, t2⟩ := HTV.out (by first | trivial | rfl)
  have hx1 := HXP.out
  have hy1 := HYP.out
  rw [← hx1] at m1 m2 m3
  rw [← hy1] at m7
  simp only [RegM.p] at m1 m2 m3
  simp only [RepM.p] at m7
  have HV := hide_ m3
  have hnt : (nv : Int) = tv := by rw [← HNV.out, m3, List.length_replicate]; omega
  subst m1 m2 m7
  clear m3 hx1 hy1
  have HVA := hide_ HFX4.out.2.1
  have HCT := hide_ HT4.out
  have d1 : ((nv : Int) == tv) = true := beq_iff_eq.2 hnt
  have hnv8 : nv ≤ 8 := by omega
  clear hnt t1 t2
  have hcx3 := hct
  go_upto_region 8 with fail
  rw [HW4.out]
  clear hco hct zt zo hcx3
  have hcx := HX4.out.cell
  have zx := HX4.out.lt
  go_wp2
  go_loopw [10] (fun i wr => ∃ k : Nat, k ≤ nv ∧ i = .int .i64 k ∧ W4 = wr) (fun i _ => nv - (intOf i).toNat)
  case atStart => exact ⟨0, Nat.zero_le _, rfl, rfl⟩
  case round =>
    obtain ⟨k, hk, rfl, rfl⟩ := hrel
    by_cases hlt : k < nv
    · have hx0 : xvl[k]? = some 0 := by
        rw [HV.out, List.getElem?_replicate, if_pos (by have := HNV.out; rw [HV.out, List.length_replicate] at this; omega)]
      obtain ⟨tb, ot, rfl, hab, e0⟩ := Sees.i64 HVA.out.2.2.1 hx0
      go_wp2
      go_roundw
      case rel => exact ⟨k + 1, by omega, by go_num, (by first | trivial | rfl)⟩
      case measure => simp [intOf]; omega
    · obtain rfl : k = nv := by omega
      have hct := HT4.out.cell
      have hcy := HY4.out.cell
      have zt := HT4.out.lt
      have zy := HY4.out.lt
      go_wp2_with fail
      refine (HA.out _).mono ?_
      rintro e9 w9 ⟨rfl, hb9⟩
      have HB9 := hide_ (HB4.out.trans (hb9.mono HB4.out.size))
      go_wp2
      go_ret
      exact ⟨rfl, HB9.out⟩

theorem own : ownKnob Tryz.prog.godebug = none := by kernel_rfl
theorem laid : laidOutB Tryz.prog = true := by kernel_rfl

set_option maxRecDepth 100000 in
theorem contract (H : Type) (enc : TypeId × Value → H) (W : World) (base : Nat) (args : Array Value) (ds gs : List (DataW H)) (before : List MemPlace)
    (hval : ∀ (j : Nat) t v, Tryz.f9.params[j]? = some t → args[j]? = some v → Value.okWide Tryz.prog W .any base t v)
    (hW : DataW.Whole enc Tryz.prog Tryz.f9.params.toList Rows.engineAbsentSpec.vars false W args.toList ds gs before) :
    Calls Tryz.prog 9 args W fun e W' => ∃ v, e = .returned v ∧ Rows.engineAbsentSpec.post enc Tryz.prog Tryz.f9 false true false false W args v W' := by
  have hW' := hW
  obtain ⟨p, q, hA0, hV, rfl, hfz, hnd⟩ := hW
  have hA : DataW.TrodAll enc Tryz.prog W 0 (fun _ => true) true Tryz.f9.params.toList args.toList ds p := hA0
  rw [Tryz.params9] at hA hval
  obtain ⟨v0, vs0, d0, ds0, p0, q0, hargs, rfl, rfl, h0, r0⟩ := trodAll_cons hA
  obtain ⟨v1, vs1, d1, ds1, p1, q1, rfl, rfl, rfl, h1, r1⟩ := trodAll_cons r0
  obtain ⟨v2, vs2, d2, ds2, p2, q2, rfl, rfl, rfl, h2, r2⟩ := trodAll_cons r1
  obtain ⟨rfl, rfl, rfl⟩ := trodAll_nil r2
  obtain rfl : args = #[v0, v1, v2] := by cases args; simp_all
  obtain ⟨rfl, rfl⟩ := trodVars_none hV
  obtain ⟨x0, y0, z0, rfl, bx0, by0, bz0⟩ := open_table (hval 0 24 v0 rfl rfl) h0
  obtain ⟨u1, rfl, bu1⟩ := open_op (hval 1 33 v1 rfl rfl) h1
  obtain ⟨a2, rfl, rfl, rfl, w2⟩ := open_int Tryz.underlying25 (hval 2 25 v2 rfl rfl) h2
  have b2 : 0 ≤ a2 ∧ a2 ≤ 18446744073709551615 := by simpa [Lit.wf, IntKind.min, IntKind.max, IntKind.signed, IntKind.bits] using w2
  have fin : ∀ (e : Ending) (W' : World), e = .returned (.bool true) ∧ Below W.heap.size W W' → ∃ v, e = .returned v ∧ Rows.engineAbsentSpec.post enc Tryz.prog Tryz.f9 false true false false W #[tabV x0 y0 z0, OpM.v u1, .int .u64 a2] v W' :=
    fun e W' ⟨he, hb⟩ => ⟨_, he, law_post laid (by kernel_rfl) rfl rfl rfl Tryz.underlying4 hW' hb⟩
  exact (walk x0 y0 z0 u1 a2 W bz0 bu1 b2).mono fin

set_option maxRecDepth 100000 in
theorem lifted (os : Os) (started : os.Started) (H : Type) (enc : TypeId × Value → H) :
    ReturnsInHanded {} Tryz.checked os 9 .any (Rows.engineAbsentSpec.pre6 enc Tryz.prog Tryz.f9 Rows.engineAbsentRow.domain false) (Rows.engineAbsentSpec.post enc Tryz.prog Tryz.f9 false true false false) := by
  refine returnsInHanded_of_change (C := Tryz.checked) (s := Rows.engineAbsentSpec) own started (by kernel_rfl) Tryz.func9
    (ChangeSpec.witness6 (enc := enc) (C := Tryz.checked) false ⟨#[], #[.agg #[.int .i64 0, .int .i64 0, .slice none 0 0], .agg #[.int .u8 0, .int .u8 0, .int .u8 0, .int .u64 0, .int .i64 0, .int .i64 0, .int .i64 0, .int .u8 0, .int .u64 0, .int .u64 0], .int .u64 0], []⟩ 8 (by kernel_rfl) (by kernel_rfl) (by kernel_rfl) (by kernel_rfl)) ?_
  intro W base args ds gs before hval hW _ _
  exact contract H enc W base args ds gs before hval hW

theorem proved : Rows.EngineAbsentSaid :=
  OpenClaim.holds_of_wide 9 Tryz.f9 rfl rfl rfl rfl rfl rfl rfl ⟨rfl, rfl, rfl, rfl, rfl⟩ rfl rfl rfl rfl rfl (by kernel_rfl) Tryz.func9 (by kernel_rfl)
    (of_decide_eq_true (by kernel_rfl)) (by unfold Func.isWrapper; first | (rw [if_pos (by decide +kernel)]; kernel_rfl) | (rw [if_neg (by decide +kernel)]; exact ⟨rfl, rfl⟩))
    (fun os started H enc _ => lifted os started H enc)

end Go.Proofs.YtccfjaefnejjmaaGreat.engineAbsent
