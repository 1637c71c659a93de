/-
  scrutineerlaw10.ConfSteps answers true for every input and leaves its input as it was; no condition.
-/
import Derived.Test.YtlcgihdphdkhpaaOpen10
import Derived.Test.YtlcgihdphdkhpaaSame10
import Derived.Test.YtlcgihdphdkhpaaLaw
namespace Go.Proofs.Ytlcgihdphdkhpaa.confSteps
open Go.ChangeShapes Go.WideShapes Go.ChangeAt Go.RowKit

set_option maxRecDepth 100000 in
theorem walk_long (C : Nat) (A1 : Option Addr) (n1 c1 : Nat) (A2 : Option Addr) (n2 c2 : Nat) (node : UInt8) (w : World) (hg : (decide (80 < n1) || decide (80 < n2)) = true) (h1 : n1 ≤ maxLen) (h2 : n2 ≤ maxLen) :
    Calls Try.prog 5 #[.agg #[.int .u64 C, .slice A1 n1 c1, .slice A2 n2 c2], .int .u8 (node.toNat : Int)] w fun e w' => e = .returned (.bool true) ∧ Below w.heap.size w w' := by
  have HG := hide_ (fun u => great10_any C A1 n1 c1 A2 n2 c2 u h1 h2)
  rw [hg] at HG
  clear hg h1 h2
  have HB0 := hide_ ((Below.refl w.heap.size w).alloc (Nat.le_refl _) (.cells #[.int .u64 C, .slice A1 n1 c1, .slice A2 n2 c2] 25))
  have HX0 := hide_ (BoxAt.new w #[.int .u64 C, .slice A1 n1 c1, .slice A2 n2 c2] 25)
  obtain ⟨W0, hW0⟩ : ∃ W0, w.alloc (.cells #[.int .u64 C, .slice A1 n1 c1, .slice A2 n2 c2] 25) = W0 := ⟨_, rfl⟩
  rw [hW0] at HB0 HX0
  have HW0 := hide_ hW0
  have hs0 : w.heap.size < W0.heap.size := HX0.out.lt
  clear hW0
  go_enter Try.func5, Try.ntmps5
  go_upto_region 1 with fail
  rw [HW0.out]
  have c0 := HX0.out.cell 0
  have c1' := HX0.out.cell 1
  have c2' := HX0.out.cell 2
  simp at c0 c1' c2'
  go_wp2_with fail
  refine (HG.out _).mono ?_
  rintro e w1 ⟨rfl, hb1⟩
  have HB1 := hide_ (HB0.out.trans (hb1.mono HB0.out.size))
  clear hb1
  go_wp2_with fail
  refine (awake10_any _).mono ?_
  rintro e wz ⟨rfl, hbz⟩
  go_wp2
  go_ret
  exact ⟨rfl, HB1.out.trans (hbz.mono HB1.out.size)⟩

set_option maxRecDepth 100000 in
set_option maxHeartbeats 3200000 in
theorem walk_short (C : Nat) (A1 : Option Addr) (n1 c1 : Nat) (l1 : List UInt8) (A2 : Option Addr) (n2 c2 : Nat) (l2 : List UInt8) (node : UInt8) (w : World) (hC : C < 18446744073709551616) (e1 : l1.length = n1) (s1 : Sees w w.heap.size A1 (bv l1)) (e2 : l2.length = n2) (s2 : Sees w w.heap.size A2 (bv l2)) (h1 : n1 ≤ 80) (h2 : n2 ≤ 80) :
    Calls Try.prog 5 #[.agg #[.int .u64 C, .slice A1 n1 c1, .slice A2 n2 c2], .int .u8 (node.toNat : Int)] w fun e w' => e = .returned (.bool true) ∧ Below w.heap.size w w' := by
  subst e1 e2
  have HG := hide_ (fun u => great10_any C A1 l1.length c1 A2 l2.length c2 u (by unfold maxLen; omega) (by unfold maxLen; omega))
  rw [show (decide (80 < l1.length) || decide (80 < l2.length)) = false by simp; omega] at HG
  have HOX := hide_ (fun (u : World) (hu : Below w.heap.size w u) => show NdM.ok u w.heap.size ⟨A1, c1, l1⟩ from ⟨by show l1.length ≤ 100; omega, s1.below hu⟩)
  have HOY := hide_ (fun (u : World) (hu : Below w.heap.size w u) => show NdM.ok u w.heap.size ⟨A2, c2, l2⟩ from ⟨by show l2.length ≤ 100; omega, s2.below hu⟩)
  have HR := hide_ (fun (u : World) (hu : Below w.heap.size w u) => refStep10_any C ⟨A1, c1, l1⟩ ⟨A2, c2, l2⟩ node w.heap.size u (HOX.out u hu) (HOY.out u hu) hu.size hC)
  have HS := hide_ (fun (u : World) (hu : Below w.heap.size w u) => Step_any C ⟨A1, c1, l1⟩ ⟨A2, c2, l2⟩ node w.heap.size u (HOX.out u hu) (HOY.out u hu) hu.size hC)
  have M1 := hide_ (fun h0 => stepN_may (C := C) (o := l1) (n := l2) (x := node) h0)
  obtain ⟨⟨er, D, l3, l4⟩, hst⟩ : ∃ s, stepN C l1 l2 node = s := ⟨_, rfl⟩
  unfold StOut at HS HR
  simp only [cfV, NdM.v, hst] at HR HS M1
  clear hst
  have HB0 := hide_ ((Below.refl w.heap.size w).alloc (Nat.le_refl _) (.cells #[.int .u64 C, .slice A1 l1.length c1, .slice A2 l2.length c2] 25))
  have HX0 := hide_ (BoxAt.new w #[.int .u64 C, .slice A1 l1.length c1, .slice A2 l2.length c2] 25)
  obtain ⟨W0, hW0⟩ : ∃ W0, w.alloc (.cells #[.int .u64 C, .slice A1 l1.length c1, .slice A2 l2.length c2] 25) = W0 := ⟨_, rfl⟩
  rw [hW0] at HB0 HX0
  have HW0 := hide_ hW0
  have hs0 : w.heap.size < W0.heap.size := HX0.out.lt
  clear hW0
  go_enter Try.func5, Try.ntmps5
  go_upto_region 1 with fail
  rw [HW0.out]
  have c0 := HX0.out.cell 0
  have c1' := HX0.out.cell 1
  have c2' := HX0.out.cell 2
  simp at c0 c1' c2'
  go_wp2_with fail
  refine (HG.out _).mono ?_
  rintro e w1 ⟨rfl, hb1⟩
  have HB1 := hide_ (HB0.out.trans (hb1.mono HB0.out.size))
  have HX1 := hide_ (HX0.out.below hb1)
  have hs1 : w.heap.size < w1.heap.size := HX1.out.lt
  clear hb1 c0 c1' c2'
  have c0 := HX1.out.cell 0
  have c1' := HX1.out.cell 1
  have c2' := HX1.out.cell 2
  simp at c0 c1' c2'
  go_wp2_with fail
  refine (HS.out _ HB1.out).mono ?_
  rintro e w2 ⟨x', y', rfl, hx', hy', hox, hoy, hb2⟩
  obtain ⟨A3, c3, l3a⟩ := x'
  obtain ⟨A4, c4, l4a⟩ := y'
  simp only at hx' hy'
  subst hx' hy'
  simp only
  have HB2 := hide_ ((HB1.out.trans (hb2.mono HB1.out.size)).alloc (Nat.le_trans HB1.out.size hb2.size) (.cells #[.int .u64 (D : Nat), .slice A3 l3a.length c3, .slice A4 l4a.length c4] 25))
  have HX2 := hide_ ((HX1.out.below hb2).alloc (.cells #[.int .u64 (D : Nat), .slice A3 l3a.length c3, .slice A4 l4a.length c4] 25))
  have HY2 := hide_ (BoxAt.new w2 #[.int .u64 (D : Nat), .slice A3 l3a.length c3, .slice A4 l4a.length c4] 25)
  have HOX2 := hide_ (hox.below ((Below.refl w2.heap.size w2).alloc (Nat.le_refl _) (.cells #[.int .u64 (D : Nat), .slice A3 l3a.length c3, .slice A4 l4a.length c4] 25)))
  have HOY2 := hide_ (hoy.below ((Below.refl w2.heap.size w2).alloc (Nat.le_refl _) (.cells #[.int .u64 (D : Nat), .slice A3 l3a.length c3, .slice A4 l4a.length c4] 25)))
  obtain ⟨WD, hWD⟩ : ∃ W, w2.alloc (.cells #[.int .u64 (D : Nat), .slice A3 l3a.length c3, .slice A4 l4a.length c4] 25) = W := ⟨_, rfl⟩
  have hgs : w2.heap.size < WD.heap.size := by rw [← hWD]; simp
  rw [hWD] at HB2 HX2 HY2 HOX2 HOY2
  have HWD := hide_ hWD
  obtain ⟨g, hgg⟩ : ∃ g, w2.heap.size = g := ⟨_, rfl⟩
  have HGG := hide_ hgg
  rw [hgg] at HY2 HOX2 HOY2 hgs
  have HE2 := hide_ (Below.refl WD.heap.size WD)
  have hsd : w.heap.size < WD.heap.size := HX2.out.lt
  clear hWD hgg hox hoy hb2 c0 c1' c2'
  go_upto_region 4 with fail
  rw [HWD.out, HGG.out]
  have c0 := HX2.out.cell 0
  have c1' := HX2.out.cell 1
  have c2' := HX2.out.cell 2
  simp at c0 c1' c2'
  go_wp2_with fail
  refine (HR.out _ HB2.out).mono ?_
  rintro e w3 ⟨x', y', rfl, hx', hy', hox, hoy, hb3⟩
  obtain ⟨A5, c5, l3b⟩ := x'
  obtain ⟨A6, c6, l4b⟩ := y'
  simp only at hx' hy'
  subst hx' hy'
  simp only
  have HYa := hide_ ((HY2.out.below hb3).alloc (.cells #[.int .u64 (D : Nat), .slice A5 l3b.length c5, .slice A6 l4b.length c6] 25))
  have HOXa := hide_ ((HOX2.out.below (hb3.mono (by omega))).below ((Below.refl g w3).alloc (by have := hb3.size; omega) (.cells #[.int .u64 (D : Nat), .slice A5 l3b.length c5, .slice A6 l4b.length c6] 25)))
  have HOYa := hide_ ((HOY2.out.below (hb3.mono (by omega))).below ((Below.refl g w3).alloc (by have := hb3.size; omega) (.cells #[.int .u64 (D : Nat), .slice A5 l3b.length c5, .slice A6 l4b.length c6] 25)))
  have HB3 := hide_ ((HB2.out.trans (hb3.mono HB2.out.size)).alloc (Nat.le_trans HB2.out.size hb3.size) (.cells #[.int .u64 (D : Nat), .slice A5 l3b.length c5, .slice A6 l4b.length c6] 25))
  have HX3 := hide_ ((HX2.out.below hb3).alloc (.cells #[.int .u64 (D : Nat), .slice A5 l3b.length c5, .slice A6 l4b.length c6] 25))
  have HZ3 := hide_ (BoxAt.new w3 #[.int .u64 (D : Nat), .slice A5 l3b.length c5, .slice A6 l4b.length c6] 25)
  have HOX3 := hide_ (hox.below ((Below.refl w3.heap.size w3).alloc (Nat.le_refl _) (.cells #[.int .u64 (D : Nat), .slice A5 l3b.length c5, .slice A6 l4b.length c6] 25)))
  have HOY3 := hide_ (hoy.below ((Below.refl w3.heap.size w3).alloc (Nat.le_refl _) (.cells #[.int .u64 (D : Nat), .slice A5 l3b.length c5, .slice A6 l4b.length c6] 25)))
  obtain ⟨WE, hWE⟩ : ∃ W, w3.alloc (.cells #[.int .u64 (D : Nat), .slice A5 l3b.length c5, .slice A6 l4b.length c6] 25) = W := ⟨_, rfl⟩
  have hhs : w3.heap.size < WE.heap.size := by rw [← hWE]; simp
  have hgh : g < w3.heap.size := by have := hb3.size; omega
  rw [hWE] at HB3 HX3 HZ3 HOX3 HOY3 HYa HOXa HOYa
  have HWE := hide_ hWE
  obtain ⟨h, hhh⟩ : ∃ h, w3.heap.size = h := ⟨_, rfl⟩
  have HHH := hide_ hhh
  rw [hhh] at HZ3 HOX3 HOY3 hhs hgh
  have HE3 := hide_ (Below.refl WE.heap.size WE)
  have hgE : g < WE.heap.size := by omega
  clear hWE hhh hox hoy hb3 c0 c1' c2'
  go_upto_region 5 with fail
  rw [HWE.out, HHH.out]
  have d0 := HYa.out.cell 0
  have d1 := HYa.out.cell 1
  have d2 := HYa.out.cell 2
  simp at d0 d1 d2
  have f0 := HZ3.out.cell 0
  have f1 := HZ3.out.cell 1
  have f2 := HZ3.out.cell 2
  simp at f0 f1 f2
  have HSA := hide_ (refSame10_any D D ⟨A3, c3, l3b⟩ ⟨A4, c4, l4b⟩ ⟨A5, c5, l3b⟩ ⟨A6, c6, l4b⟩ WE.heap.size WE (HOXa.out.more (by omega)) (HOYa.out.more (by omega)) (HOX3.out.more (by omega)) (HOY3.out.more (by omega)) (Nat.le_refl _) rfl rfl rfl)
  have HMA := hide_ (fun (u : World) (hu : Below g WE u) => refMay10_any D ⟨A3, c3, l3b⟩ ⟨A4, c4, l4b⟩ g u (HOXa.out.below hu) (HOYa.out.below hu) (by have := hu.size; omega))
  simp only [cfV, NdM.v] at HSA HMA
  go_wp2_with fail
  refine HSA.out.mono ?_
  rintro e w4 ⟨rfl, hb4⟩
  have HB4 := hide_ (HB3.out.trans (hb4.mono HB3.out.size))
  have HYb := hide_ (HYa.out.below hb4)
  have HE4 := hide_ (hb4.mono (show g ≤ WE.heap.size by omega))
  have ht4 : g < w4.heap.size := HYb.out.lt
  clear hb4 d0 d1 d2 f0 f1 f2
  have d0 := HYb.out.cell 0
  have d1 := HYb.out.cell 1
  have d2 := HYb.out.cell 2
  simp at d0 d1 d2
  by_cases he : er = 0
  · subst he
    have HM1 := hide_ (M1.out (by first | trivial | rfl))
    rw [HM1.out] at HMA
    go_wp2_with fail
    refine (HMA.out _ HE4.out).mono ?_
    rintro e w5 ⟨rfl, hb5⟩
    have HB5 := hide_ (HB4.out.trans (hb5.mono HB4.out.size))
    go_wp2_with fail
    refine (awake10_any _).mono ?_
    rintro e wz ⟨rfl, hbz⟩
    go_wp2
    go_ret
    exact ⟨rfl, HB5.out.trans (hbz.mono HB5.out.size)⟩
  · have hee : (er != 0) = true := by rw [bne_iff_ne]; exact he
    clear he M1
    go_wp2_with fail
    refine (awake10_any _).mono ?_
    rintro e wz ⟨rfl, hbz⟩
    go_wp2
    go_ret
    exact ⟨rfl, HB4.out.trans (hbz.mono HB4.out.size)⟩

theorem own : ownKnob Try.prog.godebug = none := by kernel_rfl
theorem laid : laidOutB Try.prog = true := by kernel_rfl

set_option maxRecDepth 100000 in
theorem contract (H : Type) (enc : TypeId × Value → H) (W : World) (base : Nat) (args : Array Value) (ds gs : List (DataW H)) (before : List MemPlace)
    (hval : ∀ (j : Nat) t v, Try.f5.params[j]? = some t → args[j]? = some v → Value.okWide Try.prog W .any base t v)
    (hW : DataW.Whole enc Try.prog Try.f5.params.toList Rows.confStepsSpec.vars false W args.toList ds gs before) :
    Calls Try.prog 5 args W fun e W' => ∃ v, e = .returned v ∧ Rows.confStepsSpec.post enc Try.prog Try.f5 false true false false W args v W' := by
  have hW' := hW
  obtain ⟨p, q, hA0, hV, rfl, hfz, hnd⟩ := hW
  have hA : DataW.TrodAll enc Try.prog W 0 (fun _ => true) true Try.f5.params.toList args.toList ds p := hA0
  rw [Try.params5] at hA hval
  obtain ⟨v0, vs0, d0, ds0, p0, q0, hargs, rfl, rfl, h0, r0⟩ := trodAll_cons hA
  obtain ⟨v1, vs1, d1, ds1, p1, q1, rfl, rfl, rfl, h1, r1⟩ := trodAll_cons r0
  obtain ⟨rfl, rfl, rfl⟩ := trodAll_nil r1
  obtain rfl : args = #[v0, v1] := by cases args; simp_all
  obtain ⟨rfl, rfl⟩ := trodVars_none hV
  obtain ⟨C0, P0, pn0, pc0, pl0, Q0, qn0, qc0, ql0, rfl, bc0, ⟨pe0, pm0, ps0⟩, qe0, qm0, qs0⟩ := open_conf (hval 0 25 v0 rfl rfl) h0
  obtain ⟨a1, rfl, rfl, rfl, w1⟩ := open_int Try.underlying5 (hval 1 5 v1 rfl rfl) h1
  have b1 : 0 ≤ a1 ∧ a1 ≤ 255 := by simpa [Lit.wf, IntKind.min, IntKind.max, IntKind.signed, IntKind.bits] using w1
  have fin : ∀ (e : Ending) (W' : World), e = .returned (.bool true) ∧ Below W.heap.size W W' → ∃ v, e = .returned v ∧ Rows.confStepsSpec.post enc Try.prog Try.f5 false true false false W #[.agg #[.int .u64 C0, .slice P0 pn0 pc0, .slice Q0 qn0 qc0], .int .u8 a1] v W' :=
    fun e W' ⟨he, hb⟩ => ⟨_, he, law_post laid (by kernel_rfl) rfl rfl rfl Try.underlying4 hW' hb⟩
  obtain ⟨node, rfl⟩ : ∃ x : UInt8, a1 = (x.toNat : Int) := ⟨UInt8.ofNat a1.toNat, by rw [UInt8.toNat_ofNat']; omega⟩
  cases hg : (decide (80 < pn0) || decide (80 < qn0)) with
  | true => exact (walk_long C0 P0 pn0 pc0 Q0 qn0 qc0 node W hg pm0 qm0).mono fin
  | false =>
    simp at hg
    exact (walk_short C0 P0 pn0 pc0 pl0 Q0 qn0 qc0 ql0 node W bc0 pe0 ps0 qe0 qs0 (by omega) (by omega)).mono fin

set_option maxRecDepth 100000 in
theorem lifted (os : Os) (started : os.Started) (H : Type) (enc : TypeId × Value → H) :
    ReturnsInHanded {} Try.checked os 5 .any (Rows.confStepsSpec.pre6 enc Try.prog Try.f5 Rows.confStepsRow.domain false) (Rows.confStepsSpec.post enc Try.prog Try.f5 false true false false) := by
  refine returnsInHanded_of_change (C := Try.checked) (s := Rows.confStepsSpec) own started (by kernel_rfl) Try.func5
    (ChangeSpec.witness6 (enc := enc) (C := Try.checked) false ⟨#[], #[.agg #[.int .u64 0, .slice none 0 0, .slice none 0 0], .int .u8 0], []⟩ 8 (by kernel_rfl) (by kernel_rfl) (by kernel_rfl) (by kernel_rfl)) ?_
  intro W base args ds gs before hval hW _ _
  exact contract H enc W base args ds gs before hval hW

theorem proved : Rows.ConfStepsSaid :=
  OpenClaim.holds_of_wide 5 Try.f5 rfl rfl rfl rfl rfl rfl rfl ⟨rfl, rfl, rfl, rfl, rfl⟩ rfl rfl rfl rfl rfl (by kernel_rfl) Try.func5 (by kernel_rfl)
    (of_decide_eq_true (by kernel_rfl)) (by unfold Func.isWrapper; first | (rw [if_pos (by decide +kernel)]; kernel_rfl) | (rw [if_neg (by decide +kernel)]; exact ⟨rfl, rfl⟩))
    (fun os started H enc _ => lifted os started H enc)

end Go.Proofs.Ytlcgihdphdkhpaa.confSteps
