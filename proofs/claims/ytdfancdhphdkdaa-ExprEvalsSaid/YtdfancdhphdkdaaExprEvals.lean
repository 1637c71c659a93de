/-
  scrutineerlaw04.ExprEvals answers true for every input and leaves its input as it was; no condition.
-/
import Derived.Test.YtdfancdhphdkdaaAw04
namespace Go.Proofs.Ytdfancdhphdkdaa.exprEvals
open Go.ChangeShapes Go.WideShapes Go.ChangeAt Go.RowKit

theorem walk_far (A V : Option Addr) (n c m k : Nat) (arg : Int) (w : World) (hc : n ≤ maxLen) (hk : m ≤ maxLen) (h : 100 < n ∨ 100 < m) :
    Calls Try.prog 3 #[.slice A n c, .slice V m k, .int .i64 arg] w fun e w' => e = .returned (.bool true) ∧ Below w.heap.size w w' := by
  unfold maxLen at hc hk
  by_cases h1 : 100 < n
  · clear h
    have hd : decide (100 < (n : Int)) = true := decide_eq_true (by omega)
    go_enter Try.func3, Try.ntmps3
    go_wp2_with fail
    refine (awake04_any _).mono ?_
    rintro e w1 ⟨rfl, hb1⟩
    go_wp2
    go_ret
    exact ⟨rfl, hb1⟩
  · have h2 : 100 < m := by omega
    have h3 : n ≤ 100 := by omega
    clear h h1
    have hd : decide (100 < (n : Int)) = false := decide_eq_false (by omega)
    have hd2 : decide (100 < (m : Int)) = true := decide_eq_true (by omega)
    go_enter Try.func3, Try.ntmps3
    go_wp2_with fail
    refine (awake04_any _).mono ?_
    rintro e w1 ⟨rfl, hb1⟩
    go_wp2
    go_ret
    exact ⟨rfl, hb1⟩

set_option maxHeartbeats 800000 in
theorem walk (l : List (Int × Int)) (vars : List Int) (arg : Int) (A V : Option Addr) (n c m k : Nat) (w : World) (hn : l.length = n) (hm : vars.length = m) (hs : Sees w w.heap.size A (tv l)) (hsv : Sees w w.heap.size V (iv vars))
    (hl : ∀ t ∈ l, TokIn t) (hv : ∀ v ∈ vars, I64 v) (ha : I64 arg) (h1 : n ≤ 100) (h2 : m ≤ 100) :
    Calls Try.prog 3 #[.slice A n c, .slice V m k, .int .i64 arg] w fun e w' => e = .returned (.bool true) ∧ Below w.heap.size w w' := by
  have HC := hide_ (show n ≤ maxLen by unfold maxLen; omega)
  have HN := hide_ hn
  have HM := hide_ hm
  have HL := hide_ hl
  have HV := hide_ hv
  have HS := hide_ hs
  have HSV := hide_ hsv
  clear hn hm hl hv hs hsv
  have hd : decide (100 < (n : Int)) = false := decide_eq_false (by omega)
  have hd2 : decide (100 < (m : Int)) = false := decide_eq_false (by omega)
  obtain ⟨⟨x, y⟩, hxy⟩ : ∃ q, evalR l vars arg = q := ⟨_, rfl⟩
  obtain ⟨q, hq⟩ : ∃ q, mayB l m = q := ⟨_, rfl⟩
  obtain ⟨r, hr⟩ : ∃ q, holdsB l vars arg = q := ⟨_, rfl⟩
  have HE := hide_ hxy
  have HQ := hide_ hq
  have HR := hide_ hr
  clear hxy hq hr
  go_enter Try.func3, Try.ntmps3
  go_wp2_with fail
  refine (Eval_any l vars arg w.heap.size A V n c m k _ HN.out HC.out HM.out HS.out HSV.out (Nat.le_refl _) HL.out HV.out ha).mono ?_
  rw [HE.out]
  rintro e w1 ⟨rfl, hb1⟩
  go_wp2_with fail
  refine (refEval_any l vars arg w.heap.size A V n c m k _ HN.out HC.out HM.out (HS.out.below hb1) (HSV.out.below hb1) hb1.size HL.out HV.out ha).mono ?_
  rw [HE.out]
  rintro e w2 ⟨rfl, hb2⟩
  have hb02 := hb1.trans (hb2.mono hb1.size)
  go_wp2_with fail
  refine (May_any l w.heap.size A n c m _ HN.out HC.out (HS.out.below hb02) hb02.size).mono ?_
  rw [HQ.out]
  rintro e w3 ⟨rfl, hb3⟩
  have hb03 := hb02.trans (hb3.mono hb02.size)
  go_wp2_with fail
  refine (refMay_any l w.heap.size A n c m _ HN.out HC.out (HS.out.below hb03) hb03.size HL.out).mono ?_
  rw [HQ.out]
  rintro e w4 ⟨rfl, hb4⟩
  have hb04 := hb03.trans (hb4.mono hb03.size)
  go_wp2_with fail
  refine (Holds_any l vars arg w.heap.size A V n c m k _ HN.out HC.out HM.out (HS.out.below hb04) (HSV.out.below hb04) hb04.size HL.out HV.out ha).mono ?_
  rw [HR.out]
  rintro e w5 ⟨rfl, hb5⟩
  have hb05 := hb04.trans (hb5.mono hb04.size)
  go_wp2_with fail
  refine (refHolds_any l vars arg w.heap.size A V n c m k _ HN.out HC.out HM.out (HS.out.below hb05) (HSV.out.below hb05) hb05.size HL.out HV.out ha).mono ?_
  rw [HR.out]
  rintro e w6 ⟨rfl, hb6⟩
  have hb06 := hb05.trans (hb6.mono hb05.size)
  go_wp2_with fail
  refine (awake04_any _).mono ?_
  rintro e w7 ⟨rfl, hb7⟩
  go_wp2
  go_ret
  exact ⟨rfl, hb06.trans (hb7.mono hb06.size)⟩

theorem own : ownKnob Try.prog.godebug = none := by kernel_rfl
theorem laid : laidOutB Try.prog = true := by kernel_rfl
theorem cells64 : Try.prog.cellsOf 2 = 1 := by kernel_rfl

theorem contract (H : Type) (enc : TypeId × Value → H) (W : World) (base : Nat) (args : Array Value) (ds gs : List (DataW H)) (before : List MemPlace)
    (hval : ∀ (j : Nat) t v, Try.f3.params[j]? = some t → args[j]? = some v → Value.okWide Try.prog W .any base t v)
    (hW : DataW.Whole enc Try.prog Try.f3.params.toList Rows.exprEvalsSpec.vars false W args.toList ds gs before) :
    Calls Try.prog 3 args W fun e W' => ∃ v, e = .returned v ∧ Rows.exprEvalsSpec.post enc Try.prog Try.f3 false true false false W args v W' := by
  have hW' := hW
  obtain ⟨p, q, hA0, hV, rfl, hfz, hnd⟩ := hW
  have hA : DataW.TrodAll enc Try.prog W 0 (fun _ => true) true Try.f3.params.toList args.toList ds p := hA0
  rw [Try.params3] at hA hval
  obtain ⟨v0, vs0, d0, ds0, p0, q0, hargs, rfl, rfl, h0, r0⟩ := trodAll_cons hA
  obtain ⟨v1, vs1, d1, ds1, p1, q1, rfl, rfl, rfl, h1, r1⟩ := trodAll_cons r0
  obtain ⟨v2, vs2, d2, ds2, p2, q2, rfl, rfl, rfl, h2, r2⟩ := trodAll_cons r1
  obtain ⟨rfl, rfl, rfl⟩ := trodAll_nil r2
  obtain rfl : args = #[v0, v1, v2] := by cases args; simp_all
  obtain ⟨rfl, rfl⟩ := trodVars_none hV
  obtain ⟨A0, n0, c0, l0, rfl, e0, m0, M0, s0, t0⟩ := open_toks (hval 0 22 v0 rfl rfl) h0
  obtain ⟨A1, n1, c1, l1, rfl, e1, m1, M1, s1, t1⟩ := open_i64s Try.underlying23 Try.underlying2 cells64 (hval 1 23 v1 rfl rfl) h1
  obtain ⟨a2, rfl, rfl, rfl, w2⟩ := open_int Try.underlying2 (hval 2 2 v2 rfl rfl) h2
  have b2 : -9223372036854775808 ≤ a2 ∧ a2 ≤ 9223372036854775807 := by simpa [Lit.wf, IntKind.min, IntKind.max, IntKind.signed, IntKind.bits] using w2
  have fin : ∀ (e : Ending) (W' : World), e = .returned (.bool true) ∧ Below W.heap.size W W' → ∃ v, e = .returned v ∧ Rows.exprEvalsSpec.post enc Try.prog Try.f3 false true false false W #[.slice A0 n0 c0, .slice A1 n1 c1, .int .i64 a2] v W' :=
    fun e W' ⟨he, hb⟩ => ⟨_, he, law_post laid (by kernel_rfl) rfl rfl rfl Try.underlying4 hW' hb⟩
  by_cases h : 100 < n0 ∨ 100 < n1
  · exact (walk_far A0 A1 n0 c0 n1 c1 a2 W (by omega) (by omega) h).mono fin
  · exact (walk l0 l1 a2 A0 A1 n0 c0 n1 c1 W e0 e1 s0 s1 t0 t1 b2 (by omega) (by omega)).mono fin

set_option maxRecDepth 100000 in
theorem lifted (os : Os) (started : os.Started) (H : Type) (enc : TypeId × Value → H) :
    ReturnsInHanded {} Try.checked os 3 .any (Rows.exprEvalsSpec.pre6 enc Try.prog Try.f3 Rows.exprEvalsRow.domain false) (Rows.exprEvalsSpec.post enc Try.prog Try.f3 false true false false) := by
  refine returnsInHanded_of_change (C := Try.checked) (s := Rows.exprEvalsSpec) own started (by kernel_rfl) Try.func3
    (ChangeSpec.witness6 (enc := enc) (C := Try.checked) false ⟨#[], #[.slice none 0 0, .slice none 0 0, .int .i64 0], []⟩ 8 (by kernel_rfl) (by kernel_rfl) (by kernel_rfl) (by kernel_rfl)) ?_
  intro W base args ds gs before hval hW _ _
  exact contract H enc W base args ds gs before hval hW

theorem proved : Rows.ExprEvalsSaid :=
  OpenClaim.holds_of_wide 3 Try.f3 rfl rfl rfl rfl rfl rfl rfl ⟨rfl, rfl, rfl, rfl, rfl⟩ rfl rfl rfl rfl rfl (by kernel_rfl) Try.func3 (by kernel_rfl)
    (of_decide_eq_true (by kernel_rfl)) (by unfold Func.isWrapper; first | (rw [if_pos (by decide +kernel)]; kernel_rfl) | (rw [if_neg (by decide +kernel)]; exact ⟨rfl, rfl⟩))
    (fun os started H enc _ => lifted os started H enc)
end Go.Proofs.Ytdfancdhphdkdaa.exprEvals
