/-
  scrutineerlaw10.ConfOther answers true for every input and leaves its input as it was; no condition.
-/
import Derived.Test.YtlcgihdphdkhpaaOpen10
import Derived.Test.YtlcgihdphdkhpaaOth10
import Derived.Test.YtlcgihdphdkhpaaLaw
namespace Go.Proofs.Ytlcgihdphdkhpaa.confOther
open Go.ChangeShapes Go.WideShapes Go.ChangeAt Go.RowKit

set_option maxRecDepth 100000 in
theorem walk_long (C : Nat) (A1 : Option Addr) (n1 c1 : Nat) (A2 : Option Addr) (n2 c2 : Nat) (key : UInt8) (a b : Nat) (w : World) (hg : (decide (80 < n1) || decide (80 < n2)) = true) (h1 : n1 ≤ maxLen) (h2 : n2 ≤ maxLen) :
    Calls Try.prog 6 #[.agg #[.int .u64 C, .slice A1 n1 c1, .slice A2 n2 c2], .int .u8 (key.toNat : Int), .int .u64 a, .int .u64 b] w fun e w' => e = .returned (.bool true) ∧ Below w.heap.size w w' := by
  have HG := hide_ (fun u => great10_any C A1 n1 c1 A2 n2 c2 u h1 h2)
  rw [hg] at HG
  clear hg h1 h2
  have HB0 := hide_ ((Below.refl w.heap.size w).alloc (Nat.le_refl _) (.cells #[.int .u64 C, .slice A1 n1 c1, .slice A2 n2 c2] 25))
  have HX0 := hide_ (BoxAt.new w #[.int .u64 C, .slice A1 n1 c1, .slice A2 n2 c2] 25)
  obtain ⟨W0, hW0⟩ : ∃ W0, w.alloc (.cells #[.int .u64 C, .slice A1 n1 c1, .slice A2 n2 c2] 25) = W0 := ⟨_, rfl⟩
  rw [hW0] at HB0 HX0
  have HW0 := hide_ hW0
  have hs0 : w.heap.size < W0.heap.size := HX0.out.lt
  clear hW0
  go_enter Try.func6, Try.ntmps6
  go_upto_region 1 with fail
  rw [HW0.out]
  have c0 := HX0.out.cell 0
  have c1' := HX0.out.cell 1
  have c2' := HX0.out.cell 2
  simp at c0 c1' c2'
  go_wp2_with fail
  refine (HG.out _).mono ?_
  rintro e w1 ⟨rfl, hb1⟩
  have HB1 := hide_ (HB0.out.trans (hb1.mono HB0.out.size))
  clear hb1
  go_wp2_with fail
  refine (awake10_any _).mono ?_
  rintro e wz ⟨rfl, hbz⟩
  go_wp2
  go_ret
  exact ⟨rfl, HB1.out.trans (hbz.mono HB1.out.size)⟩

set_option maxRecDepth 100000 in
set_option maxHeartbeats 3200000 in
theorem walk_short (C : Nat) (A1 : Option Addr) (n1 c1 : Nat) (l1 : List UInt8) (A2 : Option Addr) (n2 c2 : Nat) (l2 : List UInt8) (key : UInt8) (a b : Nat) (w : World) (_hC : C < 18446744073709551616) (e1 : l1.length = n1) (s1 : Sees w w.heap.size A1 (bv l1)) (e2 : l2.length = n2) (s2 : Sees w w.heap.size A2 (bv l2)) (h1 : n1 ≤ 80) (h2 : n2 ≤ 80) (ha : a < 18446744073709551616) (hb : b < 18446744073709551616) :
    Calls Try.prog 6 #[.agg #[.int .u64 C, .slice A1 n1 c1, .slice A2 n2 c2], .int .u8 (key.toNat : Int), .int .u64 a, .int .u64 b] w fun e w' => e = .returned (.bool true) ∧ Below w.heap.size w w' := by
  subst e1 e2
  have HG := hide_ (fun u => great10_any C A1 l1.length c1 A2 l2.length c2 u (by unfold maxLen; omega) (by unfold maxLen; omega))
  rw [show (decide (80 < l1.length) || decide (80 < l2.length)) = false by simp; omega] at HG
  have HOX := hide_ (fun (u : World) (hu : Below w.heap.size w u) => show NdM.ok u w.heap.size ⟨A1, c1, l1⟩ from ⟨by show l1.length ≤ 100; omega, s1.below hu⟩)
  have HOY := hide_ (fun (u : World) (hu : Below w.heap.size w u) => show NdM.ok u w.heap.size ⟨A2, c2, l2⟩ from ⟨by show l2.length ≤ 100; omega, s2.below hu⟩)
  have HQ := hide_ (fun (s : Nat) (hs : s < 18446744073709551616) (u : World) (hu : Below w.heap.size w u) => Quorum_any C ⟨A1, c1, l1⟩ ⟨A2, c2, l2⟩ key s w.heap.size u (HOX.out u hu) (HOY.out u hu) hu.size hs)
  have HA := hide_ (fun (s : Nat) (hs : s < 18446744073709551616) (u : World) (hu : Below w.heap.size w u) => All_any C ⟨A1, c1, l1⟩ ⟨A2, c2, l2⟩ key s w.heap.size u (HOX.out u hu) (HOY.out u hu) hu.size hs)
  have M1 := hide_ (fun (h : quoC C l1 l2 key a = false) => show allC C l1 l2 key a = false from by
    rw [← Bool.not_eq_true] at h ⊢
    exact fun h2 => h (allC_quo h2))
  have M2 := hide_ (fun (h : quoC C l1 l2 key a = true) => show quoC C l1 l2 key (18446744073709551615 - a) = false from quoC_not ha h)
  have M3 := hide_ (fun (h : quoC C l1 l2 key a = true) => show quoC C l1 l2 key (a ||| b) = true from quoC_more h)
  simp only [cfV, NdM.v] at HQ HA
  have hnt := not64' a ha
  have hsg : IntKind.u64.signed = false := rfl
  have hor := u64_or_nat a b ha hb
  have hab : a ||| b < 18446744073709551616 := Nat.or_lt_two_pow (n := 64) ha hb
  have HB0 := hide_ ((Below.refl w.heap.size w).alloc (Nat.le_refl _) (.cells #[.int .u64 C, .slice A1 l1.length c1, .slice A2 l2.length c2] 25))
  have HX0 := hide_ (BoxAt.new w #[.int .u64 C, .slice A1 l1.length c1, .slice A2 l2.length c2] 25)
  obtain ⟨W0, hW0⟩ : ∃ W0, w.alloc (.cells #[.int .u64 C, .slice A1 l1.length c1, .slice A2 l2.length c2] 25) = W0 := ⟨_, rfl⟩
  rw [hW0] at HB0 HX0
  have HW0 := hide_ hW0
  have hs0 : w.heap.size < W0.heap.size := HX0.out.lt
  clear hW0
  go_enter Try.func6, Try.ntmps6
  go_upto_region 1 with fail
  rw [HW0.out]
  have c0 := HX0.out.cell 0
  have c1' := HX0.out.cell 1
  have c2' := HX0.out.cell 2
  simp at c0 c1' c2'
  go_wp2_with fail
  refine (HG.out _).mono ?_
  rintro e w1 ⟨rfl, hb1⟩
  have HB1 := hide_ (HB0.out.trans (hb1.mono HB0.out.size))
  have HX1 := hide_ (HX0.out.below hb1)
  have hs1 : w.heap.size < w1.heap.size := HX1.out.lt
  clear hb1 c0 c1' c2'
  have c0 := HX1.out.cell 0
  have c1' := HX1.out.cell 1
  have c2' := HX1.out.cell 2
  simp at c0 c1' c2'
  have HQ1 := HQ.out a ha w1 HB1.out
  cases hq : quoC C l1 l2 key a with
  | false =>
    have HA1 := hide_ (fun (u : World) (hu : Below w.heap.size w u) => HA.out a ha u hu)
    rw [M1.out hq] at HA1
    rw [hq] at HQ1
    have HQ1 := hide_ HQ1
    clear hq M1 M2 M3 HA HQ hnt hor
    go_wp2_with fail
    refine (HQ1.out).mono ?_
    rintro e w2 ⟨rfl, hb2⟩
    have HB2 := hide_ (HB1.out.trans (hb2.mono HB1.out.size))
    have HX2 := hide_ (HX1.out.below hb2)
    have hs2 : w.heap.size < w2.heap.size := HX2.out.lt
    clear hb2 c0 c1' c2'
    have c0 := HX2.out.cell 0
    have c1' := HX2.out.cell 1
    have c2' := HX2.out.cell 2
    simp at c0 c1' c2'
    go_wp2_with fail
    refine (HA1.out _ HB2.out).mono ?_
    rintro e w3 ⟨rfl, hb3⟩
    have HB3 := hide_ (HB2.out.trans (hb3.mono HB2.out.size))
    have HX3 := hide_ (HX2.out.below hb3)
    have hs3 : w.heap.size < w3.heap.size := HX3.out.lt
    clear hb3 c0 c1' c2'
    have c0 := HX3.out.cell 0
    have c1' := HX3.out.cell 1
    have c2' := HX3.out.cell 2
    simp at c0 c1' c2'
    go_wp2_with fail
    refine (awake10_any _).mono ?_
    rintro e wz ⟨rfl, hbz⟩
    go_wp2
    go_ret
    exact ⟨rfl, HB3.out.trans (hbz.mono HB3.out.size)⟩
  | true =>
    have HN1 := hide_ (fun (u : World) (hu : Below w.heap.size w u) => HQ.out (18446744073709551615 - a) (by omega) u hu)
    have HM1 := hide_ (fun (u : World) (hu : Below w.heap.size w u) => HQ.out (a ||| b) hab u hu)
    rw [M2.out hq] at HN1
    rw [M3.out hq] at HM1
    rw [hq] at HQ1
    have HQ1 := hide_ HQ1
    clear hq M1 M2 M3 HA HQ
    go_wp2_with fail
    refine (HQ1.out).mono ?_
    rintro e w2 ⟨rfl, hb2⟩
    have HB2 := hide_ (HB1.out.trans (hb2.mono HB1.out.size))
    have HX2 := hide_ (HX1.out.below hb2)
    have hs2 : w.heap.size < w2.heap.size := HX2.out.lt
    clear hb2 c0 c1' c2'
    have c0 := HX2.out.cell 0
    have c1' := HX2.out.cell 1
    have c2' := HX2.out.cell 2
    simp at c0 c1' c2'
    go_wp2_with fail
    refine (HN1.out _ HB2.out).mono ?_
    rintro e w3 ⟨rfl, hb3⟩
    have HB3 := hide_ (HB2.out.trans (hb3.mono HB2.out.size))
    have HX3 := hide_ (HX2.out.below hb3)
    have hs3 : w.heap.size < w3.heap.size := HX3.out.lt
    clear hb3 c0 c1' c2'
    have c0 := HX3.out.cell 0
    have c1' := HX3.out.cell 1
    have c2' := HX3.out.cell 2
    simp at c0 c1' c2'
    go_wp2_with fail
    refine (HM1.out _ HB3.out).mono ?_
    rintro e w4 ⟨rfl, hb4⟩
    have HB4 := hide_ (HB3.out.trans (hb4.mono HB3.out.size))
    have HX4 := hide_ (HX3.out.below hb4)
    have hs4 : w.heap.size < w4.heap.size := HX4.out.lt
    clear hb4 c0 c1' c2'
    have c0 := HX4.out.cell 0
    have c1' := HX4.out.cell 1
    have c2' := HX4.out.cell 2
    simp at c0 c1' c2'
    go_wp2_with fail
    refine (awake10_any _).mono ?_
    rintro e wz ⟨rfl, hbz⟩
    go_wp2
    go_ret
    exact ⟨rfl, HB4.out.trans (hbz.mono HB4.out.size)⟩

theorem own : ownKnob Try.prog.godebug = none := by kernel_rfl
theorem laid : laidOutB Try.prog = true := by kernel_rfl

set_option maxRecDepth 100000 in
theorem contract (H : Type) (enc : TypeId × Value → H) (W : World) (base : Nat) (args : Array Value) (ds gs : List (DataW H)) (before : List MemPlace)
    (hval : ∀ (j : Nat) t v, Try.f6.params[j]? = some t → args[j]? = some v → Value.okWide Try.prog W .any base t v)
    (hW : DataW.Whole enc Try.prog Try.f6.params.toList Rows.confOtherSpec.vars false W args.toList ds gs before) :
    Calls Try.prog 6 args W fun e W' => ∃ v, e = .returned v ∧ Rows.confOtherSpec.post enc Try.prog Try.f6 false true false false W args v W' := by
  have hW' := hW
  obtain ⟨p, q, hA0, hV, rfl, hfz, hnd⟩ := hW
  have hA : DataW.TrodAll enc Try.prog W 0 (fun _ => true) true Try.f6.params.toList args.toList ds p := hA0
  rw [Try.params6] at hA hval
  obtain ⟨v0, vs0, d0, ds0, p0, q0, hargs, rfl, rfl, h0, r0⟩ := trodAll_cons hA
  obtain ⟨v1, vs1, d1, ds1, p1, q1, rfl, rfl, rfl, h1, r1⟩ := trodAll_cons r0
  obtain ⟨v2, vs2, d2, ds2, p2, q2, rfl, rfl, rfl, h2, r2⟩ := trodAll_cons r1
  obtain ⟨v3, vs3, d3, ds3, p3, q3, rfl, rfl, rfl, h3, r3⟩ := trodAll_cons r2
  obtain ⟨rfl, rfl, rfl⟩ := trodAll_nil r3
  obtain rfl : args = #[v0, v1, v2, v3] := by cases args; simp_all
  obtain ⟨rfl, rfl⟩ := trodVars_none hV
  obtain ⟨C0, P0, pn0, pc0, pl0, Q0, qn0, qc0, ql0, rfl, bc0, ⟨pe0, pm0, ps0⟩, qe0, qm0, qs0⟩ := open_conf (hval 0 25 v0 rfl rfl) h0
  obtain ⟨a1, rfl, rfl, rfl, w1⟩ := open_int Try.underlying5 (hval 1 5 v1 rfl rfl) h1
  have b1 : 0 ≤ a1 ∧ a1 ≤ 255 := by simpa [Lit.wf, IntKind.min, IntKind.max, IntKind.signed, IntKind.bits] using w1
  obtain ⟨a2, rfl, rfl, rfl, w2⟩ := open_int Try.underlying22 (hval 2 22 v2 rfl rfl) h2
  have b2 : 0 ≤ a2 ∧ a2 ≤ 18446744073709551615 := by simpa [Lit.wf, IntKind.min, IntKind.max, IntKind.signed, IntKind.bits] using w2
  obtain ⟨a3, rfl, rfl, rfl, w3⟩ := open_int Try.underlying22 (hval 3 22 v3 rfl rfl) h3
  have b3 : 0 ≤ a3 ∧ a3 ≤ 18446744073709551615 := by simpa [Lit.wf, IntKind.min, IntKind.max, IntKind.signed, IntKind.bits] using w3
  have fin : ∀ (e : Ending) (W' : World), e = .returned (.bool true) ∧ Below W.heap.size W W' → ∃ v, e = .returned v ∧ Rows.confOtherSpec.post enc Try.prog Try.f6 false true false false W #[.agg #[.int .u64 C0, .slice P0 pn0 pc0, .slice Q0 qn0 qc0], .int .u8 a1, .int .u64 a2, .int .u64 a3] v W' :=
    fun e W' ⟨he, hb⟩ => ⟨_, he, law_post laid (by kernel_rfl) rfl rfl rfl Try.underlying4 hW' hb⟩
  obtain ⟨key, rfl⟩ : ∃ x : UInt8, a1 = (x.toNat : Int) := ⟨UInt8.ofNat a1.toNat, by rw [UInt8.toNat_ofNat']; omega⟩
  obtain ⟨a, rfl⟩ : ∃ x : Nat, a2 = (x : Int) := ⟨a2.toNat, by omega⟩
  obtain ⟨b, rfl⟩ : ∃ x : Nat, a3 = (x : Int) := ⟨a3.toNat, by omega⟩
  cases hg : (decide (80 < pn0) || decide (80 < qn0)) with
  | true => exact (walk_long C0 P0 pn0 pc0 Q0 qn0 qc0 key a b W hg pm0 qm0).mono fin
  | false =>
    simp at hg
    exact (walk_short C0 P0 pn0 pc0 pl0 Q0 qn0 qc0 ql0 key a b W bc0 pe0 ps0 qe0 qs0 (by omega) (by omega) (by omega) (by omega)).mono fin

set_option maxRecDepth 100000 in
theorem lifted (os : Os) (started : os.Started) (H : Type) (enc : TypeId × Value → H) :
    ReturnsInHanded {} Try.checked os 6 .any (Rows.confOtherSpec.pre6 enc Try.prog Try.f6 Rows.confOtherRow.domain false) (Rows.confOtherSpec.post enc Try.prog Try.f6 false true false false) := by
  refine returnsInHanded_of_change (C := Try.checked) (s := Rows.confOtherSpec) own started (by kernel_rfl) Try.func6
    (ChangeSpec.witness6 (enc := enc) (C := Try.checked) false ⟨#[], #[.agg #[.int .u64 0, .slice none 0 0, .slice none 0 0], .int .u8 0, .int .u64 0, .int .u64 0], []⟩ 8 (by kernel_rfl) (by kernel_rfl) (by kernel_rfl) (by kernel_rfl)) ?_
  intro W base args ds gs before hval hW _ _
  exact contract H enc W base args ds gs before hval hW

theorem proved : Rows.ConfOtherSaid :=
  OpenClaim.holds_of_wide 6 Try.f6 rfl rfl rfl rfl rfl rfl rfl ⟨rfl, rfl, rfl, rfl, rfl⟩ rfl rfl rfl rfl rfl (by kernel_rfl) Try.func6 (by kernel_rfl)
    (of_decide_eq_true (by kernel_rfl)) (by unfold Func.isWrapper; first | (rw [if_pos (by decide +kernel)]; kernel_rfl) | (rw [if_neg (by decide +kernel)]; exact ⟨rfl, rfl⟩))
    (fun os started H enc _ => lifted os started H enc)

end Go.Proofs.Ytlcgihdphdkhpaa.confOther
