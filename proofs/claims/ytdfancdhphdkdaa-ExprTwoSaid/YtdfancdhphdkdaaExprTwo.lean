/-
  scrutineerlaw04.ExprTwo answers true for every input and leaves its input as it was; no condition.
-/
import Derived.Test.YtdfancdhphdkdaaAw04
namespace Go.Proofs.Ytdfancdhphdkdaa.exprTwo
open Go.ChangeShapes Go.WideShapes Go.ChangeAt Go.RowKit

set_option maxHeartbeats 800000 in
theorem walk (o a b : Int) (w : World) (ho : 0 ≤ o ∧ o ≤ 255) (ha : I64 a) (hb : I64 b) :
    Calls Try.prog 4 #[.int .u8 o, .int .i64 a, .int .i64 b] w fun e w' => e = .returned (.bool true) ∧ Below w.heap.size w w' := by
  obtain ⟨⟨x, y⟩, hxy⟩ : ∃ q, evalR [(1, a), (3, 0), (o, 0)] [] b = q := ⟨_, rfl⟩
  have HE := hide_ hxy
  have HT := hide_ (show ∀ t ∈ [((1 : Int), a), (3, 0), (o, 0)], TokIn t by
    intro t ht
    simp only [List.mem_cons, List.not_mem_nil, or_false] at ht
    rcases ht with rfl | rfl | rfl
    · exact ⟨by simp, by simp, ha⟩
    · decide
    · exact ⟨ho.1, ho.2, show I64 0 by decide⟩)
  have HS := hide_ (sees_new w #[.int .u8 1, .int .i64 a, .int .u8 3, .int .i64 0, .int .u8 o, .int .i64 0] 33 (tv [(1, a), (3, 0), (o, 0)]) rfl)
  clear hxy
  have HB := hide_ ((Below.refl w.heap.size w).alloc (Nat.le_refl _) (.cells #[.int .u8 1, .int .i64 a, .int .u8 3, .int .i64 0, .int .u8 o, .int .i64 0] 33))
  go_enter Try.func4, Try.ntmps4
  go_wp2_with fail
  refine (Eval_any [(1, a), (3, 0), (o, 0)] [] b (w.heap.size + 1) _ none 3 3 0 0 _ rfl (by decide) rfl HS.out (Sees.empty _ _ _) (by simp) HT.out (by simp) hb).mono ?_
  rw [HE.out]
  rintro e w1 ⟨rfl, hb1⟩
  have hz1 : w.heap.size + 1 ≤ w1.heap.size := by have := hb1.size; simp at this; omega
  have HB1 := hide_ ((hb1.mono (show w.heap.size + 1 ≤ _ by simp)).alloc hz1 (.cells #[] 2))
  go_wp2_with fail
  refine (refEval_any [(1, a), (3, 0), (o, 0)] [] b (w.heap.size + 1) _ _ 3 3 0 _ _ rfl (by decide) rfl (HS.out.below HB1.out) (Sees.empty _ _ _) (by simp; omega) HT.out (by simp) hb).mono ?_
  rw [HE.out]
  rintro e w2 ⟨rfl, hb2⟩
  go_wp2_with fail
  refine (awake04_any _).mono ?_
  rintro e w3 ⟨rfl, hb3⟩
  go_wp2
  go_ret
  have hb01 := HB.out.trans (HB1.out.mono (by omega))
  have hb02 := hb01.trans (hb2.mono hb01.size)
  exact ⟨rfl, hb02.trans (hb3.mono hb02.size)⟩

theorem own : ownKnob Try.prog.godebug = none := by kernel_rfl
theorem laid : laidOutB Try.prog = true := by kernel_rfl

theorem contract (H : Type) (enc : TypeId × Value → H) (W : World) (base : Nat) (args : Array Value) (ds gs : List (DataW H)) (before : List MemPlace)
    (hval : ∀ (j : Nat) t v, Try.f4.params[j]? = some t → args[j]? = some v → Value.okWide Try.prog W .any base t v)
    (hW : DataW.Whole enc Try.prog Try.f4.params.toList Rows.exprTwoSpec.vars false W args.toList ds gs before) :
    Calls Try.prog 4 args W fun e W' => ∃ v, e = .returned v ∧ Rows.exprTwoSpec.post enc Try.prog Try.f4 false true false false W args v W' := by
  have hW' := hW
  obtain ⟨p, q, hA0, hV, rfl, hfz, hnd⟩ := hW
  have hA : DataW.TrodAll enc Try.prog W 0 (fun _ => true) true Try.f4.params.toList args.toList ds p := hA0
  rw [Try.params4] at hA hval
  obtain ⟨v0, vs0, d0, ds0, p0, q0, hargs, rfl, rfl, h0, r0⟩ := trodAll_cons hA
  obtain ⟨v1, vs1, d1, ds1, p1, q1, rfl, rfl, rfl, h1, r1⟩ := trodAll_cons r0
  obtain ⟨v2, vs2, d2, ds2, p2, q2, rfl, rfl, rfl, h2, r2⟩ := trodAll_cons r1
  obtain ⟨rfl, rfl, rfl⟩ := trodAll_nil r2
  obtain rfl : args = #[v0, v1, v2] := by cases args; simp_all
  obtain ⟨rfl, rfl⟩ := trodVars_none hV
  obtain ⟨a0, rfl, rfl, rfl, w0⟩ := open_int Try.underlying5 (hval 0 5 v0 rfl rfl) h0
  have b0 : 0 ≤ a0 ∧ a0 ≤ 255 := by simpa [Lit.wf, IntKind.min, IntKind.max, IntKind.signed, IntKind.bits] using w0
  obtain ⟨a1, rfl, rfl, rfl, w1⟩ := open_int Try.underlying2 (hval 1 2 v1 rfl rfl) h1
  have b1 : -9223372036854775808 ≤ a1 ∧ a1 ≤ 9223372036854775807 := by simpa [Lit.wf, IntKind.min, IntKind.max, IntKind.signed, IntKind.bits] using w1
  obtain ⟨a2, rfl, rfl, rfl, w2⟩ := open_int Try.underlying2 (hval 2 2 v2 rfl rfl) h2
  have b2 : -9223372036854775808 ≤ a2 ∧ a2 ≤ 9223372036854775807 := by simpa [Lit.wf, IntKind.min, IntKind.max, IntKind.signed, IntKind.bits] using w2
  have fin : ∀ (e : Ending) (W' : World), e = .returned (.bool true) ∧ Below W.heap.size W W' → ∃ v, e = .returned v ∧ Rows.exprTwoSpec.post enc Try.prog Try.f4 false true false false W #[.int .u8 a0, .int .i64 a1, .int .i64 a2] v W' :=
    fun e W' ⟨he, hb⟩ => ⟨_, he, law_post laid (by kernel_rfl) rfl rfl rfl Try.underlying4 hW' hb⟩
  exact (walk a0 a1 a2 W b0 b1 b2).mono fin

set_option maxRecDepth 100000 in
theorem lifted (os : Os) (started : os.Started) (H : Type) (enc : TypeId × Value → H) :
    ReturnsInHanded {} Try.checked os 4 .any (Rows.exprTwoSpec.pre6 enc Try.prog Try.f4 Rows.exprTwoRow.domain false) (Rows.exprTwoSpec.post enc Try.prog Try.f4 false true false false) := by
  refine returnsInHanded_of_change (C := Try.checked) (s := Rows.exprTwoSpec) own started (by kernel_rfl) Try.func4
    (ChangeSpec.witness6 (enc := enc) (C := Try.checked) false ⟨#[], #[.int .u8 0, .int .i64 0, .int .i64 0], []⟩ 8 (by kernel_rfl) (by kernel_rfl) (by kernel_rfl) (by kernel_rfl)) ?_
  intro W base args ds gs before hval hW _ _
  exact contract H enc W base args ds gs before hval hW

theorem proved : Rows.ExprTwoSaid :=
  OpenClaim.holds_of_wide 4 Try.f4 rfl rfl rfl rfl rfl rfl rfl ⟨rfl, rfl, rfl, rfl, rfl⟩ rfl rfl rfl rfl rfl (by kernel_rfl) Try.func4 (by kernel_rfl)
    (of_decide_eq_true (by kernel_rfl)) (by unfold Func.isWrapper; first | (rw [if_pos (by decide +kernel)]; kernel_rfl) | (rw [if_neg (by decide +kernel)]; exact ⟨rfl, rfl⟩))
    (fun os started H enc _ => lifted os started H enc)
end Go.Proofs.Ytdfancdhphdkdaa.exprTwo
