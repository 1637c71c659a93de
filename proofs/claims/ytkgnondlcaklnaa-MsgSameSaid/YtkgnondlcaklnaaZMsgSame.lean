/-
  scrutineerlaw11.MsgSame answers true for every input and leaves its input as it was; no condition.
-/
import Derived.Test.YtkgnondlcaklnaaJ45
import Derived.Test.YtkgnondlcaklnaaJ46
import Derived.Test.YtkgnondlcaklnaaJ49
import Derived.Test.YtkgnondlcaklnaaJ38
import Derived.Test.YtkgnondlcaklnaaLaw
import Derived.Deep.RegionHeld
namespace Go.Proofs.Ytkgnondlcaklnaa.msgSame
open Go.ChangeShapes Go.WideShapes Go.ChangeAt Go.RowKit

/-- a message that is read as a whole, in a region that draws its order -/
theorem yl_msg {ops : Array Oper} {S : World → Prop} {op : Oper} {a : Act} (hw : Region.wanted op (yielded ops a.tmps) = true) (x : Operand) (ho : op.op = .load 33 x) {V : Value} {cs : Array Value} (hV : V = .agg cs) {g : Nat} {t : TypeId}
    (hS : ∀ w, S w → BoxAt w g cs t) (hn : cs.size = 24) (hx : a.eval x = .pointer (some ⟨g, 0, none⟩)) : YieldsIf Try.prog ops S op V a := by
  subst hV
  obtain ⟨d, hu, hd⟩ := msg_row
  have h := yieldsIf_load_mid (P := Try.prog) (S := S) hw _ x ho g 0 hx cs.toList d (fun w hs => (hS w hs).range) hu hd (by rw [msg_size]; simp [hn])
  simpa using h

set_option maxRecDepth 100000 in
set_option maxHeartbeats 12800000 in
set_option linter.unusedSimpArgs false in
theorem walk (a b : MsgM) (w : World) (ha : MsgM.good w w.heap.size a) (hb : MsgM.good w w.heap.size b) :
    Calls Try.prog 3 #[a.v, b.v] w fun e w' => e = .returned (.bool true) ∧ Below w.heap.size w w' := by
  have HGA := hide_ (fun (u : World) (h : Below w.heap.size w u) => GreatG_any a.r w.heap.size u (reg_stable.below ha.2 h) h.size)
  have HGB := hide_ (fun (u : World) (h : Below w.heap.size w u) => GreatG_any b.r w.heap.size u (reg_stable.below hb.2 h) h.size)
  have HSM := hide_ (fun (u : World) (h : Below w.heap.size w u) => sameMsg_any a b w.heap.size u (msg_stable.below ha h) (msg_stable.below hb h) h.size)
  have HRF := hide_ (fun (u : World) (h : Below w.heap.size w u) => refSameMsg_any a b w.heap.size u (msg_stable.below ha h) (msg_stable.below hb h) h.size)
  have HSA := hide_ (fun (u : World) (h : Below w.heap.size w u) => sameMsgEq_any a a w.heap.size u (msg_stable.below ha h) (msg_stable.below ha h) h.size rfl)
  obtain ⟨q, hq⟩ : ∃ q, decide (a.p = b.p) = q := ⟨_, rfl⟩
  simp only [hq] at HSM HRF
  obtain ⟨VX, hVX⟩ : ∃ V, a.v = V := ⟨_, rfl⟩
  obtain ⟨VY, hVY⟩ : ∃ V, b.v = V := ⟨_, rfl⟩
  have HVX := hide_ (show VX = .agg a.box from hVX.symm)
  have HVY := hide_ (show VY = .agg b.box from hVY.symm)
  simp only [hVX, hVY] at HSM HRF HSA ⊢
  clear hq ha hb hVX hVY
  simp only [RegM.v, Sl.v] at HGA HGB
  go_enter Try.func3, Try.ntmps3
  go_upto_region 0 with fail
  refine wp_region_lit ?_
  refine box_msg rfl _ rfl rfl HVX.out ?_
  intro W0 HX0 HB0 HZ0
  simp only [Act.put, List.setIfInBounds_toArray, List.set_cons_zero, List.set_cons_succ]
  refine box_msg rfl _ rfl rfl HVY.out ?_
  intro W1 HY1 HB1 HZ1
  simp only [Act.put, List.setIfInBounds_toArray, List.set_cons_zero, List.set_cons_succ]
  have HX1 := hide_ (HX0.out.below HB1.out)
  have HW := hide_ (HB0.out.trans (HB1.out.mono (by have := HZ0.out; omega)))
  have hcx := HX1.out.cell
  have hcy := HY1.out.cell
  simp only [MsgM.box] at hcx hcy
  go_wp2_with fail
  refine (HGA.out _ HW.out).mono ?_
  rintro en w2 ⟨b1, rfl, hb2, -⟩
  have HB2 := hide_ (HW.out.trans (hb2.mono HW.out.size))
  have HX2 := hide_ (HX1.out.below hb2)
  have HY2 := hide_ (HY1.out.below hb2)
  clear hb2 hcx hcy
  cases b1 with
  | true =>
    go_wp2_with fail
    refine (awake11_any _).mono ?_
    rintro en wz ⟨rfl, hbz⟩
    go_wp2
    go_ret
    exact ⟨rfl, HB2.out.trans (hbz.mono HB2.out.size)⟩
  | false =>
  have hcy := HY2.out.cell
  simp only [MsgM.box] at hcy
  go_wp2_with fail
  refine (HGB.out _ HB2.out).mono ?_
  rintro en w3 ⟨b2, rfl, hb3, -⟩
  have HB3 := hide_ (HB2.out.trans (hb3.mono HB2.out.size))
  have HX3 := hide_ (HX2.out.below hb3)
  have HY3 := hide_ (HY2.out.below hb3)
  clear hb3 hcy
  cases b2 with
  | true =>
    go_wp2_with fail
    refine (awake11_any _).mono ?_
    rintro en wz ⟨rfl, hbz⟩
    go_wp2
    go_ret
    exact ⟨rfl, HB3.out.trans (hbz.mono HB3.out.size)⟩
  | false =>
  clear HX0 HB0 HZ0 HY1 HB1 HZ1 HX1 HW HB2 HX2 HY2 HGA HGB
  have HSS := hide_ (fun (u : World) (h : Below w3.heap.size w3 u) => (⟨HX3.out.below h, HY3.out.below h⟩ : BoxAt u w.heap.size a.box 33 ∧ BoxAt u W0.heap.size b.box 33))
  have HB := hide_ (fun (u : World) (h : Below w3.heap.size w3 u) => (HB3.out.trans (h.mono HB3.out.size) : Below w.heap.size w u))
  have HD := hide_ (show Below w3.heap.size w3 w3.drew from (Below.refl _ _).drew)
  go_upto_region 3 with fail
  refine wp_region_held_drew (S := fun u => BoxAt u w.heap.size a.box 33 ∧ BoxAt u W0.heap.size b.box 33) (by kernel_rfl) (HSS.out _ HD.out) (fun hHeld => ?_)
  refine wpAnyH_take (i := 0) (oi := ⟨some 14, _, _, _, _, _⟩) (v := VX) rfl (by kernel_rfl) (by kernel_rfl) (by kernel_rfl) (fun _ _ _ h => h) (yl_msg (by rfl) _ (by rfl) HVX.out (fun _ h => h.1) (by rfl) (by rfl)) (by assumption) ?_
  simp only [Act.put, List.setIfInBounds_toArray, List.set_cons_zero, List.set_cons_succ]
  refine wpAnyH_take (i := 1) (oi := ⟨some 15, _, _, _, _, _⟩) (v := VY) rfl (by kernel_rfl) (by kernel_rfl) (by kernel_rfl) (fun _ _ _ h => h) (yl_msg (by rfl) _ (by rfl) HVY.out (fun _ h => h.2) (by rfl) (by rfl)) (by assumption) ?_
  simp only [Act.put, List.setIfInBounds_toArray, List.set_cons_zero, List.set_cons_succ]
  refine wpAnyH_take (i := 3) (oi := ⟨some 17, _, _, _, _, _⟩) (v := VX) rfl (by kernel_rfl) (by kernel_rfl) (by kernel_rfl) (fun _ _ _ h => h) (yl_msg (by rfl) _ (by rfl) HVX.out (fun _ h => h.1) (by rfl) (by rfl)) (by assumption) ?_
  simp only [Act.put, List.setIfInBounds_toArray, List.set_cons_zero, List.set_cons_succ]
  refine wpAnyH_take (i := 4) (oi := ⟨some 18, _, _, _, _, _⟩) (v := VY) rfl (by kernel_rfl) (by kernel_rfl) (by kernel_rfl) (fun _ _ _ h => h) (yl_msg (by rfl) _ (by rfl) HVY.out (fun _ h => h.2) (by rfl) (by rfl)) (by assumption) ?_
  simp only [Act.put, List.setIfInBounds_toArray, List.set_cons_zero, List.set_cons_succ]
  refine wpAnyH_ready (rs := [2]) (by kernel_rfl) (by simp) ?_
  refine AllReadyH.cons rfl (fun K hK => ?_) AllReadyH.nil
  go_simp
  go_wp2_with fail
  refine (HSM.out _ (HB.out _ HD.out)).mono ?_
  rintro en u1 ⟨rfl, hbu⟩
  have HU1 := hide_ (HD.out.trans (hbu.mono HD.out.size))
  clear hbu
  refine hK.out _ _ (HSS.out _ HU1.out) (fun hHeld => ?_)
  clear hK K
  refine wpAnyH_ready (rs := [5]) (by kernel_rfl) (by simp) ?_
  refine AllReadyH.cons rfl (fun K hK => ?_) AllReadyH.nil
  go_simp
  go_wp2_with fail
  refine (HRF.out _ (HB.out _ HU1.out)).mono ?_
  rintro en u2 ⟨rfl, hbu⟩
  have HU2 := hide_ (HU1.out.trans (hbu.mono HU1.out.size))
  clear hbu
  refine hK.out _ _ (HSS.out _ HU2.out) (fun hHeld => ?_)
  clear hK K
  refine wpAnyH_take (i := 6) (oi := ⟨some 20, _, _, _, _, _⟩) (v := ?v1) rfl (by kernel_rfl) (by kernel_rfl) (by kernel_rfl) (fun _ _ _ h => h) (Or.inl ⟨by rfl, ?hy1⟩) (by assumption) ?rest1
  case hy1 => intro w hSw; (try dsimp only at hSw); go_simp <;> with_reducible rfl
  simp only [Act.put, List.setIfInBounds_toArray, List.set_cons_zero, List.set_cons_succ]
  refine wpAnyH_take (i := 7) (oi := ⟨some 21, _, _, _, _, _⟩) (v := ?v2) rfl (by kernel_rfl) (by kernel_rfl) (by kernel_rfl) (fun _ _ _ h => h) (Or.inl ⟨by rfl, ?hy2⟩) (by assumption) ?rest2
  case hy2 => intro w hSw; (try dsimp only at hSw); go_simp <;> with_reducible rfl
  simp only [Act.put, List.setIfInBounds_toArray, List.set_cons_zero, List.set_cons_succ]
  refine wpAnyH_take (i := 8) (oi := ⟨some 22, _, _, _, _, _⟩) (v := VX) rfl (by kernel_rfl) (by kernel_rfl) (by kernel_rfl) (fun _ _ _ h => h) (yl_msg (by rfl) _ (by rfl) HVX.out (fun _ h => h.1) (by rfl) (by rfl)) (by assumption) ?_
  simp only [Act.put, List.setIfInBounds_toArray, List.set_cons_zero, List.set_cons_succ]
  refine wpAnyH_take (i := 9) (oi := ⟨some 23, _, _, _, _, _⟩) (v := VX) rfl (by kernel_rfl) (by kernel_rfl) (by kernel_rfl) (fun _ _ _ h => h) (yl_msg (by rfl) _ (by rfl) HVX.out (fun _ h => h.1) (by rfl) (by rfl)) (by assumption) ?_
  simp only [Act.put, List.setIfInBounds_toArray, List.set_cons_zero, List.set_cons_succ]
  refine wpAnyH_ready (rs := [10]) (by kernel_rfl) (by simp) ?_
  refine AllReadyH.cons rfl (fun K hK => ?_) AllReadyH.nil
  go_simp
  go_wp2_with fail
  refine (HSA.out _ (HB.out _ HU2.out)).mono ?_
  rintro en u3 ⟨rfl, hbu⟩
  have HU3 := hide_ (HU2.out.trans (hbu.mono HU2.out.size))
  clear hbu
  refine hK.out _ _ (HSS.out _ HU3.out) (fun hHeld => ?_)
  clear hK K
  refine wpAnyH_take (i := 11) (oi := ⟨some 25, _, _, _, _, _⟩) (v := ?v3) rfl (by kernel_rfl) (by kernel_rfl) (by kernel_rfl) (fun _ _ _ h => h) (Or.inl ⟨by rfl, ?hy3⟩) (by assumption) ?rest3
  case hy3 => intro w hSw; (try dsimp only at hSw); go_simp <;> with_reducible rfl
  simp only [Act.put, List.setIfInBounds_toArray, List.set_cons_zero, List.set_cons_succ]
  refine wpAnyH_take (i := 12) (oi := ⟨some 26, _, _, _, _, _⟩) (v := ?v4) rfl (by kernel_rfl) (by kernel_rfl) (by kernel_rfl) (fun _ _ _ h => h) (Or.inl ⟨by rfl, ?hy4⟩) (by assumption) ?rest4
  case hy4 => intro w hSw; (try dsimp only at hSw); go_simp <;> with_reducible rfl
  simp only [Act.put, List.setIfInBounds_toArray, List.set_cons_zero, List.set_cons_succ]
  refine wpAnyH_ready (rs := [13]) (by kernel_rfl) (by simp) ?_
  refine AllReadyH.cons rfl (fun K hK => ?_) AllReadyH.nil
  go_simp
  go_wp2_with fail
  refine (awake11_any _).mono ?_
  rintro en u4 ⟨rfl, hbu⟩
  have HU4 := hide_ (HU3.out.trans (hbu.mono HU3.out.size))
  clear hbu
  refine hK.out _ _ (HSS.out _ HU4.out) (fun hHeld => ?_)
  clear hK K
  refine wpAnyH_take (i := 14) (oi := ⟨some 28, _, _, _, _, _⟩) (v := ?v5) rfl (by kernel_rfl) (by kernel_rfl) (by kernel_rfl) (fun _ _ _ h => h) (Or.inl ⟨by rfl, ?hy5⟩) (by assumption) ?rest5
  case hy5 => intro w hSw; (try dsimp only at hSw); go_simp <;> with_reducible rfl
  simp only [Act.put, List.setIfInBounds_toArray, List.set_cons_zero, List.set_cons_succ]
  refine wpAnyH_take (i := 15) (oi := ⟨some 4, _, _, _, _, _⟩) (v := ?v6) rfl (by kernel_rfl) (by kernel_rfl) (by kernel_rfl) (fun _ _ _ h => h) (Or.inl ⟨by rfl, ?hy6⟩) (by assumption) ?rest6
  case hy6 => intro w hSw; (try dsimp only at hSw); go_simp <;> with_reducible rfl
  simp only [Act.put, List.setIfInBounds_toArray, List.set_cons_zero, List.set_cons_succ]
  refine wpAnyH_done (by kernel_rfl) ?_ _
  go_wp2_with fail
  go_ret
  exact ⟨rfl, HB.out _ HU4.out⟩
theorem own : ownKnob Try.prog.godebug = none := by kernel_rfl
theorem laid : laidOutB Try.prog = true := by kernel_rfl

set_option maxRecDepth 100000 in
theorem contract (H : Type) (enc : TypeId × Value → H) (W : World) (base : Nat) (args : Array Value) (ds gs : List (DataW H)) (before : List MemPlace)
    (hval : ∀ (j : Nat) t v, Try.f3.params[j]? = some t → args[j]? = some v → Value.okWide Try.prog W .any base t v)
    (hW : DataW.Whole enc Try.prog Try.f3.params.toList Rows.msgSameSpec.vars false W args.toList ds gs before) :
    Calls Try.prog 3 args W fun e W' => ∃ v, e = .returned v ∧ Rows.msgSameSpec.post enc Try.prog Try.f3 false true false false W args v W' := by
  have hW' := hW
  obtain ⟨p, q, hA0, hV, rfl, hfz, hnd⟩ := hW
  have hA : DataW.TrodAll enc Try.prog W 0 (fun _ => true) true Try.f3.params.toList args.toList ds p := hA0
  rw [Try.params3] at hA hval
  obtain ⟨v0, vs0, d0, ds0, p0, q0, hargs, rfl, rfl, h0, r0⟩ := trodAll_cons hA
  obtain ⟨v1, vs1, d1, ds1, p1, q1, rfl, rfl, rfl, h1, r1⟩ := trodAll_cons r0
  obtain ⟨rfl, rfl, rfl⟩ := trodAll_nil r1
  obtain rfl : args = #[v0, v1] := by cases args; simp_all
  obtain ⟨rfl, rfl⟩ := trodVars_none hV
  obtain ⟨u0, rfl, bu0⟩ := open_msg (hval 0 33 v0 rfl rfl) h0
  obtain ⟨u1, rfl, bu1⟩ := open_msg (hval 1 33 v1 rfl rfl) h1
  have fin : ∀ (e : Ending) (W' : World), e = .returned (.bool true) ∧ Below W.heap.size W W' → ∃ v, e = .returned v ∧ Rows.msgSameSpec.post enc Try.prog Try.f3 false true false false W #[MsgM.v u0, MsgM.v u1] v W' :=
    fun e W' ⟨he, hb⟩ => ⟨_, he, law_post laid (by kernel_rfl) rfl rfl rfl Try.underlying4 hW' hb⟩
  exact (walk u0 u1 W bu0 bu1).mono fin

set_option maxRecDepth 100000 in
theorem lifted (os : Os) (started : os.Started) (H : Type) (enc : TypeId × Value → H) :
    ReturnsInHanded {} Try.checked os 3 .any (Rows.msgSameSpec.pre6 enc Try.prog Try.f3 Rows.msgSameRow.domain false) (Rows.msgSameSpec.post enc Try.prog Try.f3 false true false false) := by
  refine returnsInHanded_of_change (C := Try.checked) (s := Rows.msgSameSpec) own started (by kernel_rfl) Try.func3
    (ChangeSpec.witness6 (enc := enc) (C := Try.checked) false ⟨#[], #[.agg #[.int .u8 0, .int .u8 0, .int .u8 0, .int .u8 0, .int .u64 0, .int .u64 0, .int .u8 0, .int .u32 0, .bool false, .int .u64 0, .int .u8 0, .int .u32 0, .int .u8 0, .int .u64 0, .int .i64 0, .slice none 0 0, .slice none 0 0, .slice none 0 0, .int .u64 0, .slice none 0 0, .int .u64 0, .int .u8 0, .int .u32 0, .int .u64 0], .agg #[.int .u8 0, .int .u8 0, .int .u8 0, .int .u8 0, .int .u64 0, .int .u64 0, .int .u8 0, .int .u32 0, .bool false, .int .u64 0, .int .u8 0, .int .u32 0, .int .u8 0, .int .u64 0, .int .i64 0, .slice none 0 0, .slice none 0 0, .slice none 0 0, .int .u64 0, .slice none 0 0, .int .u64 0, .int .u8 0, .int .u32 0, .int .u64 0]], []⟩ 8 (by kernel_rfl) (by kernel_rfl) (by kernel_rfl) (by kernel_rfl)) ?_
  intro W base args ds gs before hval hW _ _
  exact contract H enc W base args ds gs before hval hW

theorem proved : Rows.MsgSameSaid :=
  OpenClaim.holds_of_wide 3 Try.f3 rfl rfl rfl rfl rfl rfl rfl ⟨rfl, rfl, rfl, rfl, rfl⟩ rfl rfl rfl rfl rfl (by kernel_rfl) Try.func3 (by kernel_rfl)
    (of_decide_eq_true (by kernel_rfl)) (by unfold Func.isWrapper; first | (rw [if_pos (by decide +kernel)]; kernel_rfl) | (rw [if_neg (by decide +kernel)]; exact ⟨rfl, rfl⟩))
    (fun os started H enc _ => lifted os started H enc)

end Go.Proofs.Ytkgnondlcaklnaa.msgSame
