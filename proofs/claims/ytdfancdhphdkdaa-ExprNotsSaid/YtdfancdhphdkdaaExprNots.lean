/-
  scrutineerlaw04.ExprNots answers true for every input and leaves its input as it was; no condition.
-/
import Derived.Test.YtdfancdhphdkdaaAw04
import Derived.Test.YtdfancdhphdkdaaJoin
import Derived.Test.YtdfancdhphdkdaaApp
namespace Go.Proofs.Ytdfancdhphdkdaa.exprNots
open Go.ChangeShapes Go.WideShapes Go.ChangeAt Go.RowKit

theorem walk_far (A V : Option Addr) (n c m k : Nat) (arg : Int) (w : World) (hc : n ≤ maxLen) (hk : m ≤ maxLen) (h : 22 < n ∨ 100 < m) :
    Calls Try.prog 7 #[.slice A n c, .slice V m k, .int .i64 arg] w fun e w' => e = .returned (.bool true) ∧ Below w.heap.size w w' := by
  unfold maxLen at hc hk
  by_cases h1 : 22 < n
  · clear h
    have hd : decide (22 < (n : Int)) = true := decide_eq_true (by omega)
    go_enter Try.func7, Try.ntmps7
    go_wp2_with fail
    refine (awake04_any _).mono ?_
    rintro e w1 ⟨rfl, hb1⟩
    go_wp2
    go_ret
    exact ⟨rfl, hb1⟩
  · have h2 : 100 < m := by omega
    have h3 : n ≤ 22 := by omega
    clear h h1
    have hd : decide (22 < (n : Int)) = false := decide_eq_false (by omega)
    have hd2 : decide (100 < (m : Int)) = true := decide_eq_true (by omega)
    go_enter Try.func7, Try.ntmps7
    go_wp2_with fail
    refine (awake04_any _).mono ?_
    rintro e w1 ⟨rfl, hb1⟩
    go_wp2
    go_ret
    exact ⟨rfl, hb1⟩

theorem walk_no (l : List (Int × Int)) (A V : Option Addr) (n c m k : Nat) (arg : Int) (w : World) (hn : l.length = n) (hs : Sees w w.heap.size A (tv l)) (hl : ∀ t ∈ l, TokIn t) (h1 : n ≤ 22) (h2 : m ≤ 100) (h : mayB l m = false) :
    Calls Try.prog 7 #[.slice A n c, .slice V m k, .int .i64 arg] w fun e w' => e = .returned (.bool true) ∧ Below w.heap.size w w' := by
  have HC := hide_ (show n ≤ maxLen by unfold maxLen; omega)
  have HN := hide_ hn
  have HL := hide_ hl
  have HS := hide_ hs
  have HM := hide_ h
  clear hn hl hs h
  have hd : decide (22 < (n : Int)) = false := decide_eq_false (by omega)
  have hd2 : decide (100 < (m : Int)) = false := decide_eq_false (by omega)
  go_enter Try.func7, Try.ntmps7
  go_wp2_with fail
  refine (refMay_any l w.heap.size A n c m _ HN.out HC.out HS.out (Nat.le_refl _) HL.out).mono ?_
  rw [HM.out]
  rintro e w1 ⟨rfl, hb1⟩
  go_wp2_with fail
  refine (awake04_any _).mono ?_
  rintro e w2 ⟨rfl, hb2⟩
  go_wp2
  go_ret
  exact ⟨rfl, hb1.trans (hb2.mono hb1.size)⟩

set_option maxHeartbeats 800000 in
theorem walk (l r : List (Int × Int)) (vars : List Int) (arg x y f z : Int) (b : Bool) (A V : Option Addr) (n c m k : Nat) (w : World) (hn : l.length = n) (hm : vars.length = m) (hs : Sees w w.heap.size A (tv l)) (hsv : Sees w w.heap.size V (iv vars))
    (hl : ∀ t ∈ l, TokIn t) (hv : ∀ v ∈ vars, I64 v) (ha : I64 arg) (h1 : n ≤ 22) (h2 : m ≤ 100) (h : mayB l m = true) (hr : l ++ [(11, 0), (11, 0)] = r) (e1 : evalR l vars arg = (x, f)) (e2 : evalR r vars arg = (y, z)) (e3 : holdsB l vars arg = b)
    (t1 : (z == f) = true) (t2 : ((y == 1) == (x != 0)) = true) (t3 : ((y == 0) == (x == 0)) = true) (t4 : (b == (y == 1)) = true) :
    Calls Try.prog 7 #[.slice A n c, .slice V m k, .int .i64 arg] w fun e w' => e = .returned (.bool true) ∧ Below w.heap.size w w' := by
  have hrl : r.length = n + 2 := by rw [← hr, List.length_append, hn]; rfl
  have hc0 : r.length ≤ maxLen := by unfold maxLen; omega
  have HRT := hide_ (show ∀ t ∈ r, TokIn t by
    intro t ht
    rw [← hr] at ht
    simp only [List.mem_append, List.mem_cons, List.not_mem_nil, or_false] at ht
    rcases ht with ht | rfl | rfl
    · exact hl t ht
    · decide
    · decide)
  have HC := hide_ (show n ≤ maxLen by unfold maxLen; omega)
  have HRC := hide_ hc0
  have HN := hide_ hn
  have HM := hide_ hm
  have HL := hide_ hl
  have HV := hide_ hv
  have HS := hide_ hs
  have HSV := hide_ hsv
  have HMY := hide_ h
  have HR := hide_ hr
  have HE1 := hide_ e1
  have HE2 := hide_ e2
  have HE3 := hide_ e3
  have HRL := hide_ hrl
  clear hn hm hl hv hs hsv h hr e1 e2 e3 hrl hc0
  have hd : decide (22 < (n : Int)) = false := decide_eq_false (by omega)
  have hd2 : decide (100 < (m : Int)) = false := decide_eq_false (by omega)
  go_enter Try.func7, Try.ntmps7
  go_wp2_with fail
  refine (refMay_any l w.heap.size A n c m _ HN.out HC.out HS.out (Nat.le_refl _) HL.out).mono ?_
  rw [HMY.out]
  rintro e w1 ⟨rfl, hb1⟩
  have hz1 := hb1.size
  have hs1 := HS.out.below hb1
  have HS1 := hide_ hs1
  clear hs1
  go_wp2_with (first
    | (at_builtin; refine wpList_append_toks (P := Try.prog) _ rfl (.tmp 28) (.tmp 29) 22 rfl w1.heap.size 33 tok_info Try.underlying22 _ 0 [] l l rfl rfl (World.ownsRow_lit w1 #[] 0 (Nat.le_refl _) (by simp [maxLen]) rfl) w.heap.size A n c rfl HN.out (HS1.out.below ((Below.refl _ _).alloc (by omega) _)) (by omega) (by simp) ?_; intro A2 c2 w2 hown2 hb2)
    | (at_builtin; refine wpList_append_toks (P := Try.prog) _ rfl (.tmp 30) (.tmp 33) 22 rfl w1.heap.size 33 tok_info Try.underlying22 _ l.length l [(11, 0), (11, 0)] r HR.out rfl (hown2.alloc _) (w2.heap.size + 1) _ 2 2 rfl rfl (sees_new w2 _ _ _ rfl) (by have := HN.out; omega) (by have := hb2.size; simp at this; simp; omega) ?_; intro A3 c3 w3 hown3 hb3))
  have hb12 := ((Below.refl w1.heap.size w1).alloc (Nat.le_refl _) _).trans hb2
  have hz2 := hb12.size
  have hb23 := ((Below.refl w1.heap.size w2).alloc hz2 _).trans hb3
  have hb13 := hb12.trans hb23
  have hb03 := hb1.trans (hb13.mono hz1)
  have hz3 := hb03.size
  have HS3 := hide_ (Sees.ownToks hown3)
  have HV3 := hide_ ((HSV.out.below hb03).more hz3)
  clear hown2 hown3 hb2 hb3
  refine (Eval_any r vars arg w3.heap.size A3 V _ c3 m k _ rfl HRC.out HM.out HS3.out HV3.out (Nat.le_refl _) HRT.out HV.out ha).mono ?_
  rw [HE2.out]
  rintro e w4 ⟨rfl, hb4⟩
  have hb04 := hb03.trans (hb4.mono hz3)
  go_wp2_with fail
  refine (Eval_any l vars arg w.heap.size A V n c m k _ HN.out HC.out HM.out (HS.out.below hb04) (HSV.out.below hb04) hb04.size HL.out HV.out ha).mono ?_
  rw [HE1.out]
  rintro e w5 ⟨rfl, hb5⟩
  have hb05 := hb04.trans (hb5.mono hb04.size)
  go_wp2_with fail
  refine (Holds_any l vars arg w.heap.size A V n c m k _ HN.out HC.out HM.out (HS.out.below hb05) (HSV.out.below hb05) hb05.size HL.out HV.out ha).mono ?_
  rw [HE3.out]
  rintro e w6 ⟨rfl, hb6⟩
  have hb06 := hb05.trans (hb6.mono hb05.size)
  go_wp2_with fail
  refine (awake04_any _).mono ?_
  rintro e w7 ⟨rfl, hb7⟩
  go_wp2
  go_ret
  exact ⟨rfl, hb06.trans (hb7.mono hb06.size)⟩

theorem own : ownKnob Try.prog.godebug = none := by kernel_rfl
theorem laid : laidOutB Try.prog = true := by kernel_rfl
theorem cells64 : Try.prog.cellsOf 2 = 1 := by kernel_rfl

theorem contract (H : Type) (enc : TypeId × Value → H) (W : World) (base : Nat) (args : Array Value) (ds gs : List (DataW H)) (before : List MemPlace)
    (hval : ∀ (j : Nat) t v, Try.f7.params[j]? = some t → args[j]? = some v → Value.okWide Try.prog W .any base t v)
    (hW : DataW.Whole enc Try.prog Try.f7.params.toList Rows.exprNotsSpec.vars false W args.toList ds gs before) :
    Calls Try.prog 7 args W fun e W' => ∃ v, e = .returned v ∧ Rows.exprNotsSpec.post enc Try.prog Try.f7 false true false false W args v W' := by
  have hW' := hW
  obtain ⟨p, q, hA0, hV, rfl, hfz, hnd⟩ := hW
  have hA : DataW.TrodAll enc Try.prog W 0 (fun _ => true) true Try.f7.params.toList args.toList ds p := hA0
  rw [Try.params7] at hA hval
  obtain ⟨v0, vs0, d0, ds0, p0, q0, hargs, rfl, rfl, h0, r0⟩ := trodAll_cons hA
  obtain ⟨v1, vs1, d1, ds1, p1, q1, rfl, rfl, rfl, h1, r1⟩ := trodAll_cons r0
  obtain ⟨v2, vs2, d2, ds2, p2, q2, rfl, rfl, rfl, h2, r2⟩ := trodAll_cons r1
  obtain ⟨rfl, rfl, rfl⟩ := trodAll_nil r2
  obtain rfl : args = #[v0, v1, v2] := by cases args; simp_all
  obtain ⟨rfl, rfl⟩ := trodVars_none hV
  obtain ⟨A0, n0, c0, l0, rfl, e0, m0, M0, s0, t0⟩ := open_toks (hval 0 22 v0 rfl rfl) h0
  obtain ⟨A1, n1, c1, l1, rfl, e1, m1, M1, s1, t1⟩ := open_i64s Try.underlying23 Try.underlying2 cells64 (hval 1 23 v1 rfl rfl) h1
  obtain ⟨a2, rfl, rfl, rfl, w2⟩ := open_int Try.underlying2 (hval 2 2 v2 rfl rfl) h2
  have b2 : -9223372036854775808 ≤ a2 ∧ a2 ≤ 9223372036854775807 := by simpa [Lit.wf, IntKind.min, IntKind.max, IntKind.signed, IntKind.bits] using w2
  have fin : ∀ (e : Ending) (W' : World), e = .returned (.bool true) ∧ Below W.heap.size W W' → ∃ v, e = .returned v ∧ Rows.exprNotsSpec.post enc Try.prog Try.f7 false true false false W #[.slice A0 n0 c0, .slice A1 n1 c1, .int .i64 a2] v W' :=
    fun e W' ⟨he, hb⟩ => ⟨_, he, law_post laid (by kernel_rfl) rfl rfl rfl Try.underlying4 hW' hb⟩
  by_cases h : 22 < n0 ∨ 100 < n1
  · exact (walk_far A0 A1 n0 c0 n1 c1 a2 W (by omega) (by omega) h).mono fin
  cases hm : mayB l0 n1 with
  | false => exact (walk_no l0 A0 A1 n0 c0 n1 c1 a2 W e0 s0 t0 (by omega) (by omega) hm).mono fin
  | true =>
    have hn := nots (vars := l1) (arg := a2) (show mayB l0 l1.length = true by rw [e1]; exact hm) (by omega)
    rcases hn with ⟨x, q1, q2, q3⟩ | ⟨q1, q2, q3⟩
    · refine (walk l0 _ l1 a2 _ _ _ _ _ A0 A1 n0 c0 n1 c1 W e0 e1 s0 s1 t0 t1 b2 (by omega) (by omega) hm rfl q1 q2 q3 rfl ?_ ?_ ?_).mono fin
      all_goals
        by_cases hx : x = 0
        · subst hx
          rfl
        · simp [hx, tru]
    · exact (walk l0 _ l1 a2 _ _ _ _ _ A0 A1 n0 c0 n1 c1 W e0 e1 s0 s1 t0 t1 b2 (by omega) (by omega) hm rfl q1 q2 q3 rfl rfl rfl rfl).mono fin

set_option maxRecDepth 100000 in
theorem lifted (os : Os) (started : os.Started) (H : Type) (enc : TypeId × Value → H) :
    ReturnsInHanded {} Try.checked os 7 .any (Rows.exprNotsSpec.pre6 enc Try.prog Try.f7 Rows.exprNotsRow.domain false) (Rows.exprNotsSpec.post enc Try.prog Try.f7 false true false false) := by
  refine returnsInHanded_of_change (C := Try.checked) (s := Rows.exprNotsSpec) own started (by kernel_rfl) Try.func7
    (ChangeSpec.witness6 (enc := enc) (C := Try.checked) false ⟨#[], #[.slice none 0 0, .slice none 0 0, .int .i64 0], []⟩ 8 (by kernel_rfl) (by kernel_rfl) (by kernel_rfl) (by kernel_rfl)) ?_
  intro W base args ds gs before hval hW _ _
  exact contract H enc W base args ds gs before hval hW

theorem proved : Rows.ExprNotsSaid :=
  OpenClaim.holds_of_wide 7 Try.f7 rfl rfl rfl rfl rfl rfl rfl ⟨rfl, rfl, rfl, rfl, rfl⟩ rfl rfl rfl rfl rfl (by kernel_rfl) Try.func7 (by kernel_rfl)
    (of_decide_eq_true (by kernel_rfl)) (by unfold Func.isWrapper; first | (rw [if_pos (by decide +kernel)]; kernel_rfl) | (rw [if_neg (by decide +kernel)]; exact ⟨rfl, rfl⟩))
    (fun os started H enc _ => lifted os started H enc)
end Go.Proofs.Ytdfancdhphdkdaa.exprNots
