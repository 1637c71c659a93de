/-
  scrutineerlaw06.RegCuts answers true for every input and leaves its input as it was; no condition.
-/
import Derived.Test.YtkfejiolfkepkaaJ49
import Derived.Test.YtkfejiolfkepkaaLaw
namespace Go.Proofs.Ytkfejiolfkepkaa.regCuts
open Go.ChangeShapes Go.WideShapes Go.ChangeAt Go.RowKit

set_option maxRecDepth 100000 in
set_option maxHeartbeats 6400000 in
theorem walk (r : RegM) (cut : Int) (w : World) (hr : RegM.ok w w.heap.size r) :
    Calls Try.prog 5 #[r.v, .int .i64 cut] w fun e w' => e = .returned (.bool true) ∧ Below w.heap.size w w' := by
  have hw1 : Below w.heap.size w (w.alloc (.cells r.box 29)) := (Below.refl _ _).alloc (Nat.le_refl _) _
  have HW := hide_ hw1
  have HX := hide_ (BoxAt.new w r.box 29)
  have HG := hide_ (GreatG_any r w.heap.size _ (reg_stable.below hr hw1) hw1.size)
  have HM := hide_ (fun (u : World) (hb : Below w.heap.size w u) => refMay6_any r w.heap.size u (reg_stable.below hr hb) hb.size)
  have HP := hide_ (fun (u : World) (hb : Below w.heap.size w u) => putReg_any [] 0 0 none r w.heap.size u rfl (by omega) (Sees.empty _ _ _) (reg_stable.below hr hb) hb.size)
  have HLEN := hide_ (fun h : mayG r.p = true => regB_len hr h)
  have HGET := hide_ (fun (h : mayG r.p = true) (k : Nat) (hk : k < (regB r.p).length) => getS_cut hr h hk)
  have HPY := hide_ (fun h : mayG r.p = true => show putRG [] r.p = (regB r.p, 0) by rw [putRG_yes h, List.nil_append])
  obtain ⟨q, hq⟩ : ∃ q, mayG r.p = q := ⟨_, rfl⟩
  rw [hq] at HLEN HGET HPY
  simp only [hq] at HM
  obtain ⟨bs, hbs⟩ : ∃ bs, regB r.p = bs := ⟨_, rfl⟩
  rw [hbs] at HLEN HGET HPY
  obtain ⟨R, hR⟩ : ∃ R, putRG [] r.p = R := ⟨_, rfl⟩
  simp only [hR] at HP
  rw [hR] at HPY
  clear hq hbs hR hr hw1
  obtain ⟨ki, inc, st, ⟨vA, vc, vl⟩, ⟨dA, dc, dl⟩, ⟨oA, oc, ol⟩, la, ⟨mA, mc, ml⟩⟩ := r
  simp only [RegM.v, RegM.box, Sl.v] at HW HX HG HM HP ⊢
  go_enter Try.func5, Try.ntmps5
  go_wp2_with fail
  refine HG.out.mono ?_
  rintro en w1 ⟨b, rfl, hb, -⟩
  have HB1 := hide_ (HW.out.trans (hb.mono (by simp)))
  have HX1 := hide_ (HX.out.below hb)
  clear hb HG HX
  have hz1 : w.heap.size < w1.heap.size := HX1.out.lt
  have hcx := HX1.out.cell
  cases b with
  | true =>
    go_wp2_with fail
    refine (awake06_any _).mono ?_
    rintro en w2 ⟨rfl, hb2⟩
    go_wp2
    go_ret
    exact ⟨rfl, HB1.out.trans (hb2.mono HB1.out.size)⟩
  | false =>
  go_wp2_with fail
  refine (HM.out _ HB1.out).mono ?_
  rintro en w2 ⟨rfl, hb2⟩
  have HB2 := hide_ (HB1.out.trans (hb2.mono HB1.out.size))
  have HX2 := hide_ (HX1.out.below hb2)
  clear hb2 HM hcx
  have hz2 : w.heap.size < w2.heap.size := HX2.out.lt
  have hcx := HX2.out.cell
  cases q with
  | false =>
    go_wp2_with fail
    refine (awake06_any _).mono ?_
    rintro en w3 ⟨rfl, hb3⟩
    go_wp2
    go_ret
    exact ⟨rfl, HB2.out.trans (hb3.mono HB2.out.size)⟩
  | true =>
  obtain rfl : R = (bs, 0) := HPY.out rfl
  have HLN := hide_ (HLEN.out rfl)
  have HGT := hide_ (HGET.out rfl)
  clear HPY HLEN HGET
  obtain ⟨n, hn⟩ : ∃ n, bs.length = n := ⟨_, rfl⟩
  have HNN := hide_ hn
  rw [hn] at HLN HGT
  have hn0 := HLN.out.1
  have hn1 := HLN.out.2
  go_wp2_with fail
  refine (HP.out _ HB2.out).mono ?_
  rintro en w3 ⟨A1, c1, rfl, ho1, hb3⟩
  simp only [HNN.out] at ho1 ⊢
  have HO1 := hide_ ho1
  have HB3 := hide_ (HB2.out.trans (hb3.mono HB2.out.size))
  have HCAP := hide_ (own_cap ho1)
  have hcap : n ≤ c1 := HCAP.out
  clear ho1 hb3 hcx hn HP
  by_cases hi : cut < 0 ∨ (n : Int) ≤ cut
  · have d3 : decide ((0 : Int) < n) = true := decide_eq_true (by omega)
    rcases hi with hi | hi
    · have d1 : decide (cut < 0) = true := decide_eq_true hi
      clear hi
      go_wp2_with fail
      refine (awake06_any _).mono ?_
      rintro en w4 ⟨rfl, hb4⟩
      go_wp2
      go_ret
      exact ⟨rfl, HB3.out.trans (hb4.mono HB3.out.size)⟩
    · have d1 : decide (cut < 0) = false := decide_eq_false (by omega)
      have d2 : decide ((n : Int) ≤ cut) = true := decide_eq_true hi
      clear hi
      go_wp2_with fail
      refine (awake06_any _).mono ?_
      rintro en w4 ⟨rfl, hb4⟩
      go_wp2
      go_ret
      exact ⟨rfl, HB3.out.trans (hb4.mono HB3.out.size)⟩
  · obtain ⟨i, rfl⟩ := Int.eq_ofNat_of_zero_le (show 0 ≤ cut by omega)
    have hil : i < n := by omega
    clear hi
    have HTI := hide_ (show (bs.take i).length = i by rw [List.length_take, HNN.out]; omega)
    have HSE := hide_ (show Sees w3 w3.heap.size A1 (bv (bs.take i)) by rw [bv_take]; exact (Sees.own HO1.out).take i)
    go_wp2_with fail
    refine (New_any (bs.take i) w3.heap.size A1 i c1 w3 HTI.out HSE.out (Nat.le_refl _) (by omega)).mono ?_
    rintro en w4 ⟨g, rfl, hg, hr4, hb4⟩
    have HB4 := hide_ (HB3.out.trans (hb4.mono HB3.out.size))
    have HGR := hide_ (GetReg_any (s := (bs.take i, 0)) hr4 ⟨.inl rfl, by show (bs.take i).length ≤ _; rw [HTI.out]; omega⟩)
    rw [HGT.out i hil] at HGR
    have HGG := hide_ hg
    clear hr4 hb4 hg
    go_wp2_with fail
    refine HGR.out.mono ?_
    rintro en w5 ⟨x, rfl, hp, ho, hl, hr5, hg5⟩
    have HPX := hide_ hp
    have hgb : w.heap.size ≤ g := by have := HB3.out.size; have := HGG.out; omega
    have HB5 := hide_ (HB4.out.grown hg5 HB4.out.size fun k hk => by injection hk with hk; omega)
    have HOX := hide_ ho
    have HR5 := hide_ hr5
    clear hp ho hl hr5 hg5 HGR
    have HR6 := hide_ (HR5.out.made (.cells x.box 29))
    have HB6 := hide_ (HB5.out.alloc HB5.out.size (.cells x.box 29))
    have HX6 := hide_ (BoxAt.new w5 x.box 29)
    have HSM := hide_ (refSameG_any x zeroM w5.heap.size (w5.alloc (.cells x.box 29)) (reg_stable.below HOX.out ((Below.refl _ _).alloc (Nat.le_refl _) _)) (zeroM_ok _ _) (by simp))
    rw [show decide (x.p = zeroM.p) = true by rw [HPX.out]; rfl] at HSM
    clear HPX HOX HR5
    obtain ⟨ki2, inc2, st2, ⟨vA2, vc2, vl2⟩, ⟨dA2, dc2, dl2⟩, ⟨oA2, oc2, ol2⟩, la2, ⟨mA2, mc2, ml2⟩⟩ := x
    simp only [RegM.v, RegM.box, Sl.v, zeroM, List.length_nil] at HR6 HB6 HX6 HSM ⊢
    go_wp2_with fail
    refine HSM.out.mono ?_
    rintro en w7 ⟨rfl, hb7⟩
    have HB7 := hide_ (HB6.out.trans (hb7.mono HB6.out.size))
    have HR7 := hide_ (HR6.out.below hb7)
    clear hb7
    go_wp2_with fail
    refine (End_st (s := ([], 2)) HR7.out).mono ?_
    rintro en w8 ⟨rfl, rfl⟩
    rw [show endS ([], 2) = 2 from rfl]
    go_wp2_with fail
    refine (awake06_any _).mono ?_
    rintro en w9 ⟨rfl, hb9⟩
    go_wp2
    go_ret
    exact ⟨rfl, HB7.out.trans (hb9.mono HB7.out.size)⟩

theorem own : ownKnob Try.prog.godebug = none := by kernel_rfl
theorem laid : laidOutB Try.prog = true := by kernel_rfl

set_option maxRecDepth 100000 in
theorem contract (H : Type) (enc : TypeId × Value → H) (W : World) (base : Nat) (args : Array Value) (ds gs : List (DataW H)) (before : List MemPlace)
    (hval : ∀ (j : Nat) t v, Try.f5.params[j]? = some t → args[j]? = some v → Value.okWide Try.prog W .any base t v)
    (hW : DataW.Whole enc Try.prog Try.f5.params.toList Rows.regCutsSpec.vars false W args.toList ds gs before) :
    Calls Try.prog 5 args W fun e W' => ∃ v, e = .returned v ∧ Rows.regCutsSpec.post enc Try.prog Try.f5 false true false false W args v W' := by
  have hW' := hW
  obtain ⟨p, q, hA0, hV, rfl, hfz, hnd⟩ := hW
  have hA : DataW.TrodAll enc Try.prog W 0 (fun _ => true) true Try.f5.params.toList args.toList ds p := hA0
  rw [Try.params5] at hA hval
  obtain ⟨v0, vs0, d0, ds0, p0, q0, hargs, rfl, rfl, h0, r0⟩ := trodAll_cons hA
  obtain ⟨v1, vs1, d1, ds1, p1, q1, rfl, rfl, rfl, h1, r1⟩ := trodAll_cons r0
  obtain ⟨rfl, rfl, rfl⟩ := trodAll_nil r1
  obtain rfl : args = #[v0, v1] := by cases args; simp_all
  obtain ⟨rfl, rfl⟩ := trodVars_none hV
  obtain ⟨u0, rfl, bu0⟩ := open_reg (hval 0 29 v0 rfl rfl) h0
  obtain ⟨a1, rfl, rfl, rfl, w1⟩ := open_int Try.underlying3 (hval 1 3 v1 rfl rfl) h1
  have b1 : -9223372036854775808 ≤ a1 ∧ a1 ≤ 9223372036854775807 := by simpa [Lit.wf, IntKind.min, IntKind.max, IntKind.signed, IntKind.bits] using w1
  have fin : ∀ (e : Ending) (W' : World), e = .returned (.bool true) ∧ Below W.heap.size W W' → ∃ v, e = .returned v ∧ Rows.regCutsSpec.post enc Try.prog Try.f5 false true false false W #[RegM.v u0, .int .i64 a1] v W' :=
    fun e W' ⟨he, hb⟩ => ⟨_, he, law_post laid (by kernel_rfl) rfl rfl rfl Try.underlying4 hW' hb⟩
  exact (walk u0 a1 W bu0).mono fin

set_option maxRecDepth 100000 in
theorem lifted (os : Os) (started : os.Started) (H : Type) (enc : TypeId × Value → H) :
    ReturnsInHanded {} Try.checked os 5 .any (Rows.regCutsSpec.pre6 enc Try.prog Try.f5 Rows.regCutsRow.domain false) (Rows.regCutsSpec.post enc Try.prog Try.f5 false true false false) := by
  refine returnsInHanded_of_change (C := Try.checked) (s := Rows.regCutsSpec) own started (by kernel_rfl) Try.func5
    (ChangeSpec.witness6 (enc := enc) (C := Try.checked) false ⟨#[], #[.agg #[.int .u8 0, .int .u64 0, .int .i64 0, .slice none 0 0, .slice none 0 0, .slice none 0 0, .int .u64 0, .slice none 0 0], .int .i64 0], []⟩ 8 (by kernel_rfl) (by kernel_rfl) (by kernel_rfl) (by kernel_rfl)) ?_
  intro W base args ds gs before hval hW _ _
  exact contract H enc W base args ds gs before hval hW

theorem proved : Rows.RegCutsSaid :=
  OpenClaim.holds_of_wide 5 Try.f5 rfl rfl rfl rfl rfl rfl rfl ⟨rfl, rfl, rfl, rfl, rfl⟩ rfl rfl rfl rfl rfl (by kernel_rfl) Try.func5 (by kernel_rfl)
    (of_decide_eq_true (by kernel_rfl)) (by unfold Func.isWrapper; first | (rw [if_pos (by decide +kernel)]; kernel_rfl) | (rw [if_neg (by decide +kernel)]; exact ⟨rfl, rfl⟩))
    (fun os started H enc _ => lifted os started H enc)
end Go.Proofs.Ytkfejiolfkepkaa.regCuts
