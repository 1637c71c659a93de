/-
  scrutineerlaw04.ExprJoins answers true for every input and leaves its input as it was; no condition.
-/
import Derived.Test.YtdfancdhphdkdaaAw04
import Derived.Test.YtdfancdhphdkdaaJoin
import Derived.Test.YtdfancdhphdkdaaApp
namespace Go.Proofs.Ytdfancdhphdkdaa.exprJoins
open Go.ChangeShapes Go.WideShapes Go.ChangeAt Go.RowKit

theorem walk_far (A A' V : Option Addr) (n c n' c' m k : Nat) (o arg : Int) (w : World) (h : o < 4 ∨ (4 ≤ o ∧ 10 < o) ∨ (4 ≤ o ∧ o ≤ 10 ∧ decide (23 < wrap64 ((n : Int) + (n' : Int))) = true) ∨ (4 ≤ o ∧ o ≤ 10 ∧ decide (23 < wrap64 ((n : Int) + (n' : Int))) = false ∧ 100 < m)) :
    Calls Try.prog 6 #[.int .u8 o, .slice A n c, .slice A' n' c', .slice V m k, .int .i64 arg] w fun e w' => e = .returned (.bool true) ∧ Below w.heap.size w w' := by
  rcases h with h | ⟨h1, h2⟩ | ⟨h1, h2, h3⟩ | ⟨h1, h2, h3, h4⟩
  · have d1 := decide_eq_true h
    go_enter Try.func6, Try.ntmps6
    go_wp2_with fail
    refine (awake04_any _).mono ?_
    rintro e w1 ⟨rfl, hb1⟩
    go_wp2
    go_ret
    exact ⟨rfl, hb1⟩
  · have d1 : decide (o < 4) = false := decide_eq_false (by omega)
    have d2 := decide_eq_true h2
    go_enter Try.func6, Try.ntmps6
    go_wp2_with fail
    refine (awake04_any _).mono ?_
    rintro e w1 ⟨rfl, hb1⟩
    go_wp2
    go_ret
    exact ⟨rfl, hb1⟩
  · have d1 : decide (o < 4) = false := decide_eq_false (by omega)
    have d2 : decide (10 < o) = false := decide_eq_false (by omega)
    go_enter Try.func6, Try.ntmps6
    go_wp2_with fail
    refine (awake04_any _).mono ?_
    rintro e w1 ⟨rfl, hb1⟩
    go_wp2
    go_ret
    exact ⟨rfl, hb1⟩
  · have d1 : decide (o < 4) = false := decide_eq_false (by omega)
    have d2 : decide (10 < o) = false := decide_eq_false (by omega)
    have d4 : decide (100 < (m : Int)) = true := decide_eq_true (by omega)
    go_enter Try.func6, Try.ntmps6
    go_wp2_with fail
    refine (awake04_any _).mono ?_
    rintro e w1 ⟨rfl, hb1⟩
    go_wp2
    go_ret
    exact ⟨rfl, hb1⟩

theorem walk_l (l : List (Int × Int)) (A A' V : Option Addr) (n c n' c' m k : Nat) (o arg : Int) (w : World) (ho : 4 ≤ o ∧ o ≤ 10) (hq : decide (23 < wrap64 ((n : Int) + (n' : Int))) = false) (h2 : m ≤ 100)
    (hn : l.length = n) (hc : n ≤ maxLen) (hs : Sees w w.heap.size A (tv l)) (hl : ∀ t ∈ l, TokIn t) (h : mayB l m = false) :
    Calls Try.prog 6 #[.int .u8 o, .slice A n c, .slice A' n' c', .slice V m k, .int .i64 arg] w fun e w' => e = .returned (.bool true) ∧ Below w.heap.size w w' := by
  have HC := hide_ hc
  have HN := hide_ hn
  have HL := hide_ hl
  have HS := hide_ hs
  have HM := hide_ h
  clear hn hl hs h hc
  have d1 : decide (o < 4) = false := decide_eq_false (by omega)
  have d2 : decide (10 < o) = false := decide_eq_false (by omega)
  have d4 : decide (100 < (m : Int)) = false := decide_eq_false (by omega)
  go_enter Try.func6, Try.ntmps6
  go_wp2_with fail
  refine (refMay_any l w.heap.size A n c m _ HN.out HC.out HS.out (Nat.le_refl _) HL.out).mono ?_
  rw [HM.out]
  rintro e w1 ⟨rfl, hb1⟩
  go_wp2_with fail
  refine (awake04_any _).mono ?_
  rintro e w2 ⟨rfl, hb2⟩
  go_wp2
  go_ret
  exact ⟨rfl, hb1.trans (hb2.mono hb1.size)⟩

theorem walk_m (l l' : List (Int × Int)) (A A' V : Option Addr) (n c n' c' m k : Nat) (o arg : Int) (w : World) (ho : 4 ≤ o ∧ o ≤ 10) (hq : decide (23 < wrap64 ((n : Int) + (n' : Int))) = false) (h2 : m ≤ 100)
    (hn : l.length = n) (hc : n ≤ maxLen) (hs : Sees w w.heap.size A (tv l)) (hl : ∀ t ∈ l, TokIn t) (h : mayB l m = true)
    (hn' : l'.length = n') (hc' : n' ≤ maxLen) (hs' : Sees w w.heap.size A' (tv l')) (hl' : ∀ t ∈ l', TokIn t) (h' : mayB l' m = false) :
    Calls Try.prog 6 #[.int .u8 o, .slice A n c, .slice A' n' c', .slice V m k, .int .i64 arg] w fun e w' => e = .returned (.bool true) ∧ Below w.heap.size w w' := by
  have HC := hide_ hc
  have HN := hide_ hn
  have HL := hide_ hl
  have HS := hide_ hs
  have HM := hide_ h
  have HC' := hide_ hc'
  have HN' := hide_ hn'
  have HL' := hide_ hl'
  have HS' := hide_ hs'
  have HM' := hide_ h'
  clear hn hl hs h hc hn' hl' hs' h' hc'
  have d1 : decide (o < 4) = false := decide_eq_false (by omega)
  have d2 : decide (10 < o) = false := decide_eq_false (by omega)
  have d4 : decide (100 < (m : Int)) = false := decide_eq_false (by omega)
  go_enter Try.func6, Try.ntmps6
  go_wp2_with fail
  refine (refMay_any l w.heap.size A n c m _ HN.out HC.out HS.out (Nat.le_refl _) HL.out).mono ?_
  rw [HM.out]
  rintro e w1 ⟨rfl, hb1⟩
  go_wp2_with fail
  refine (refMay_any l' w.heap.size A' n' c' m _ HN'.out HC'.out (HS'.out.below hb1) hb1.size HL'.out).mono ?_
  rw [HM'.out]
  rintro e w2 ⟨rfl, hb2⟩
  have hb02 := hb1.trans (hb2.mono hb1.size)
  go_wp2_with fail
  refine (awake04_any _).mono ?_
  rintro e w3 ⟨rfl, hb3⟩
  go_wp2
  go_ret
  exact ⟨rfl, hb02.trans (hb3.mono hb02.size)⟩

/-- how the walk begins where both may be: the three appended, and the first Eval's answer -/
theorem in_three {o x y : Int} (ho : 4 ≤ o ∧ o ≤ 10) (hx : I64 x) (hy : I64 y) : ∀ t ∈ [((1 : Int), x), (1, y), (o, 0)], TokIn t := by
  intro t ht
  simp only [List.mem_cons, List.not_mem_nil, or_false] at ht
  rcases ht with rfl | rfl | rfl
  · exact ⟨by simp, by simp, hx⟩
  · exact ⟨by simp, by simp, hy⟩
  · exact ⟨show 0 ≤ o by omega, show o ≤ 255 by omega, show I64 0 by decide⟩
theorem in_all {l l' r : List (Int × Int)} {o : Int} (ho : 4 ≤ o ∧ o ≤ 10) (hl : ∀ t ∈ l, TokIn t) (hl' : ∀ t ∈ l', TokIn t) (hr : l ++ l' ++ [(o, 0)] = r) : ∀ t ∈ r, TokIn t := by
  intro t ht
  rw [← hr] at ht
  simp only [List.mem_append, List.mem_cons, List.not_mem_nil, or_false] at ht
  rcases ht with (ht | ht) | rfl
  · exact hl t ht
  · exact hl' t ht
  · exact ⟨show 0 ≤ o by omega, show o ≤ 255 by omega, show I64 0 by decide⟩

set_option maxHeartbeats 1600000 in
theorem walk (l l' r1 r : List (Int × Int)) (vars : List Int) (o arg x f y g u e0 : Int) (A A' V : Option Addr) (n c n' c' m k : Nat) (w : World) (ho : 4 ≤ o ∧ o ≤ 10) (h23 : n + n' ≤ 23) (h2 : m ≤ 100)
    (hn : l.length = n) (hs : Sees w w.heap.size A (tv l)) (hl : ∀ t ∈ l, TokIn t) (h : mayB l m = true)
    (hn' : l'.length = n') (hs' : Sees w w.heap.size A' (tv l')) (hl' : ∀ t ∈ l', TokIn t) (h' : mayB l' m = true)
    (hm : vars.length = m) (hsv : Sees w w.heap.size V (iv vars)) (hv : ∀ v ∈ vars, I64 v) (ha : I64 arg)
    (hr1 : l ++ l' = r1) (hr : r1 ++ [(o, 0)] = r) (he : evalR l vars arg = (x, f)) (he' : evalR l' vars arg = (y, g)) (her : evalR r vars arg = (u, e0))
    (hx : (f = 0 ∧ g = 0 ∧ I64 x ∧ I64 y ∧ evalR [(1, x), (1, y), (o, 0)] [] 0 = (u, e0)) ∨ (f = 18 ∧ u = 0 ∧ e0 = 18) ∨ (f = 0 ∧ g = 18 ∧ u = 0 ∧ e0 = 18)) :
    Calls Try.prog 6 #[.int .u8 o, .slice A n c, .slice A' n' c', .slice V m k, .int .i64 arg] w fun e w' => e = .returned (.bool true) ∧ Below w.heap.size w w' := by
  have hl1 : r1.length = n + n' := by rw [← hr1, List.length_append, hn, hn']
  have hlr : r.length = n + n' + 1 := by rw [← hr, List.length_append, hl1]; rfl
  have HRT := hide_ (in_all (r := r) ho hl hl' (by rw [hr1]; exact hr))
  have HC := hide_ (show n ≤ maxLen by unfold maxLen; omega)
  have HC' := hide_ (show n' ≤ maxLen by unfold maxLen; omega)
  have HCR := hide_ (show r.length ≤ maxLen by unfold maxLen; omega)
  have HN := hide_ hn
  have HL := hide_ hl
  have HS := hide_ hs
  have HM := hide_ h
  have HN' := hide_ hn'
  have HL' := hide_ hl'
  have HS' := hide_ hs'
  have HM' := hide_ h'
  have HMV := hide_ hm
  have HSV := hide_ hsv
  have HV := hide_ hv
  have HR1 := hide_ hr1
  have HR := hide_ hr
  have HE := hide_ he
  have HE' := hide_ he'
  have HER := hide_ her
  have HL1 := hide_ hl1
  have HX := hide_ hx
  clear hn hl hs h hn' hl' hs' h' hm hsv hv hr1 hr he he' her hl1 hlr hx
  have d1 : decide (o < 4) = false := decide_eq_false (by omega)
  have d2 : decide (10 < o) = false := decide_eq_false (by omega)
  have d3 : decide (23 < (n : Int) + (n' : Int)) = false := decide_eq_false (by omega)
  have d4 : decide (100 < (m : Int)) = false := decide_eq_false (by omega)
  go_enter Try.func6, Try.ntmps6
  go_wp2_with fail
  refine (refMay_any l w.heap.size A n c m _ HN.out HC.out HS.out (Nat.le_refl _) HL.out).mono ?_
  rw [HM.out]
  rintro e w1 ⟨rfl, hb1⟩
  go_wp2_with fail
  refine (refMay_any l' w.heap.size A' n' c' m _ HN'.out HC'.out (HS'.out.below hb1) hb1.size HL'.out).mono ?_
  rw [HM'.out]
  rintro e w2 ⟨rfl, hb2⟩
  have hb02 := hb1.trans (hb2.mono hb1.size)
  have hz2 := hb02.size
  clear hb1 hb2
  have HS2 := hide_ (HS.out.below hb02)
  have HS2' := hide_ (HS'.out.below hb02)
  go_wp2_with (first
    | (at_builtin; refine wpList_append_toks (P := Try.prog) _ rfl (.tmp 54) (.tmp 55) 22 rfl w2.heap.size 33 tok_info Try.underlying22 _ 0 [] l l rfl rfl (World.ownsRow_lit w2 #[] 0 (Nat.le_refl _) (by simp [maxLen]) rfl) w.heap.size A n c rfl HN.out (HS2.out.below ((Below.refl _ _).alloc (by omega) _)) (by omega) (by simp) ?_; intro A3 c3 w3 hown3 hb3; (have hb23 : Below w2.heap.size w2 w3 := ((Below.refl w2.heap.size w2).alloc (Nat.le_refl _) _).trans hb3))
    | (at_builtin; refine wpList_append_toks (P := Try.prog) _ rfl (.tmp 56) (.tmp 57) 22 rfl w2.heap.size 33 tok_info Try.underlying22 _ l.length l l' r1 HR1.out rfl hown3 w.heap.size A' n' c' rfl HN'.out (HS2'.out.below (hb23.mono hz2)) (by have := HN.out; omega) hb23.size ?_; intro A4 c4 w4 hown4 hb4)
    | (at_builtin; refine wpList_append_toks (P := Try.prog) _ rfl (.tmp 58) (.tmp 61) 22 rfl w2.heap.size 33 tok_info Try.underlying22 _ r1.length r1 [(o, 0)] r HR.out rfl (hown4.alloc _) (w4.heap.size + 1) _ 1 1 rfl rfl (sees_new w4 _ _ _ rfl) (by have := HL1.out; omega) (by have := hb4.size; have := hb23.size; simp; omega) ?_; intro A5 c5 w5 hown5 hb5))
  have hb34 := hb23.trans hb4
  have hz4 := hb34.size
  have hb25 := (hb34.alloc hz4 _).trans hb5
  have hb05 := hb02.trans (hb25.mono hz2)
  have hz5 := hb05.size
  have HS5 := hide_ (Sees.ownToks hown5)
  have HV5 := hide_ ((HSV.out.below hb05).more hz5)
  clear hown3 hown4 hown5 hb3 hb4 hb5
  refine (Eval_any r vars arg w5.heap.size A5 V _ c5 m k _ rfl HCR.out HMV.out HS5.out HV5.out (Nat.le_refl _) HRT.out HV.out ha).mono ?_
  rw [HER.out]
  rintro e w6 ⟨rfl, hb6⟩
  have hb06 := hb05.trans (hb6.mono hz5)
  go_wp2_with fail
  refine (Eval_any l vars arg w.heap.size A V n c m k _ HN.out HC.out HMV.out (HS.out.below hb06) (HSV.out.below hb06) hb06.size HL.out HV.out ha).mono ?_
  rw [HE.out]
  rintro e w7 ⟨rfl, hb7⟩
  have hb07 := hb06.trans (hb7.mono hb06.size)
  go_wp2_with fail
  refine (Eval_any l' vars arg w.heap.size A' V n' c' m k _ HN'.out HC'.out HMV.out (HS'.out.below hb07) (HSV.out.below hb07) hb07.size HL'.out HV.out ha).mono ?_
  rw [HE'.out]
  rintro e w8 ⟨rfl, hb8⟩
  have hb08 := hb07.trans (hb8.mono hb07.size)
  clear hb6 hb7 hb8 hb23 hb34 hb25
  rcases HX.out with ⟨rfl, rfl, hx, hy, h3⟩ | ⟨rfl, rfl, rfl⟩ | ⟨rfl, rfl, rfl, rfl⟩
  · have H3 := hide_ h3
    have HT3 := hide_ (in_three ho hx hy)
    have HS8 := hide_ (sees_new w8 #[.int .u8 1, .int .i64 x, .int .u8 1, .int .i64 y, .int .u8 o, .int .i64 0] 33 (tv [(1, x), (1, y), (o, 0)]) rfl)
    have HB8 := hide_ (hb08.alloc hb08.size (.cells #[.int .u8 1, .int .i64 x, .int .u8 1, .int .i64 y, .int .u8 o, .int .i64 0] 33))
    clear h3 HX
    go_wp2_with fail
    refine (Eval_any [(1, x), (1, y), (o, 0)] [] 0 (w8.heap.size + 1) _ none 3 3 0 0 _ rfl (by decide) rfl HS8.out (Sees.empty _ _ _) (by simp) HT3.out (by simp) (by decide)).mono ?_
    rw [H3.out]
    rintro e w9 ⟨rfl, hb9⟩
    have hb09 := HB8.out.trans (hb9.mono HB8.out.size)
    go_wp2_with fail
    refine (awake04_any _).mono ?_
    rintro e w10 ⟨rfl, hb10⟩
    go_wp2
    go_ret
    exact ⟨rfl, hb09.trans (hb10.mono hb09.size)⟩
  · clear HX
    go_wp2_with fail
    refine (awake04_any _).mono ?_
    rintro e w10 ⟨rfl, hb10⟩
    go_wp2
    go_ret
    exact ⟨rfl, hb08.trans (hb10.mono hb08.size)⟩
  · clear HX
    go_wp2_with fail
    refine (awake04_any _).mono ?_
    rintro e w10 ⟨rfl, hb10⟩
    go_wp2
    go_ret
    exact ⟨rfl, hb08.trans (hb10.mono hb08.size)⟩

theorem own : ownKnob Try.prog.godebug = none := by kernel_rfl
theorem laid : laidOutB Try.prog = true := by kernel_rfl
theorem cells64 : Try.prog.cellsOf 2 = 1 := by kernel_rfl

theorem contract (H : Type) (enc : TypeId × Value → H) (W : World) (base : Nat) (args : Array Value) (ds gs : List (DataW H)) (before : List MemPlace)
    (hval : ∀ (j : Nat) t v, Try.f6.params[j]? = some t → args[j]? = some v → Value.okWide Try.prog W .any base t v)
    (hW : DataW.Whole enc Try.prog Try.f6.params.toList Rows.exprJoinsSpec.vars false W args.toList ds gs before) :
    Calls Try.prog 6 args W fun e W' => ∃ v, e = .returned v ∧ Rows.exprJoinsSpec.post enc Try.prog Try.f6 false true false false W args v W' := by
  have hW' := hW
  obtain ⟨p, q, hA0, hV, rfl, hfz, hnd⟩ := hW
  have hA : DataW.TrodAll enc Try.prog W 0 (fun _ => true) true Try.f6.params.toList args.toList ds p := hA0
  rw [Try.params6] at hA hval
  obtain ⟨v0, vs0, d0, ds0, p0, q0, hargs, rfl, rfl, h0, r0⟩ := trodAll_cons hA
  obtain ⟨v1, vs1, d1, ds1, p1, q1, rfl, rfl, rfl, h1, r1⟩ := trodAll_cons r0
  obtain ⟨v2, vs2, d2, ds2, p2, q2, rfl, rfl, rfl, h2, r2⟩ := trodAll_cons r1
  obtain ⟨v3, vs3, d3, ds3, p3, q3, rfl, rfl, rfl, h3, r3⟩ := trodAll_cons r2
  obtain ⟨v4, vs4, d4, ds4, p4, q4, rfl, rfl, rfl, h4, r4⟩ := trodAll_cons r3
  obtain ⟨rfl, rfl, rfl⟩ := trodAll_nil r4
  obtain rfl : args = #[v0, v1, v2, v3, v4] := by cases args; simp_all
  obtain ⟨rfl, rfl⟩ := trodVars_none hV
  obtain ⟨a0, rfl, rfl, rfl, w0⟩ := open_int Try.underlying5 (hval 0 5 v0 rfl rfl) h0
  have b0 : 0 ≤ a0 ∧ a0 ≤ 255 := by simpa [Lit.wf, IntKind.min, IntKind.max, IntKind.signed, IntKind.bits] using w0
  obtain ⟨A1, n1, c1, l1, rfl, e1, m1, M1, s1, t1⟩ := open_toks (hval 1 22 v1 rfl rfl) h1
  obtain ⟨A2, n2, c2, l2, rfl, e2, m2, M2, s2, t2⟩ := open_toks (hval 2 22 v2 rfl rfl) h2
  obtain ⟨A3, n3, c3, l3, rfl, e3, m3, M3, s3, t3⟩ := open_i64s Try.underlying23 Try.underlying2 cells64 (hval 3 23 v3 rfl rfl) h3
  obtain ⟨a4, rfl, rfl, rfl, w4⟩ := open_int Try.underlying2 (hval 4 2 v4 rfl rfl) h4
  have b4 : -9223372036854775808 ≤ a4 ∧ a4 ≤ 9223372036854775807 := by simpa [Lit.wf, IntKind.min, IntKind.max, IntKind.signed, IntKind.bits] using w4
  have fin : ∀ (e : Ending) (W' : World), e = .returned (.bool true) ∧ Below W.heap.size W W' → ∃ v, e = .returned v ∧ Rows.exprJoinsSpec.post enc Try.prog Try.f6 false true false false W #[.int .u8 a0, .slice A1 n1 c1, .slice A2 n2 c2, .slice A3 n3 c3, .int .i64 a4] v W' :=
    fun e W' ⟨he, hb⟩ => ⟨_, he, law_post laid (by kernel_rfl) rfl rfl rfl Try.underlying4 hW' hb⟩
  by_cases h1 : a0 < 4
  · exact (walk_far A1 A2 A3 n1 c1 n2 c2 n3 c3 a0 a4 W (.inl h1)).mono fin
  by_cases h2 : 10 < a0
  · exact (walk_far A1 A2 A3 n1 c1 n2 c2 n3 c3 a0 a4 W (.inr (.inl ⟨by omega, h2⟩))).mono fin
  have ho : 4 ≤ a0 ∧ a0 ≤ 10 := by omega
  cases hq : decide (23 < wrap64 ((n1 : Int) + (n2 : Int))) with
  | true => exact (walk_far A1 A2 A3 n1 c1 n2 c2 n3 c3 a0 a4 W (.inr (.inr (.inl ⟨ho.1, ho.2, hq⟩)))).mono fin
  | false =>
    by_cases h3 : 100 < n3
    · exact (walk_far A1 A2 A3 n1 c1 n2 c2 n3 c3 a0 a4 W (.inr (.inr (.inr ⟨ho.1, ho.2, hq, h3⟩)))).mono fin
    have h4 : n3 ≤ 100 := by omega
    cases hm1 : mayB l1 n3 with
    | false => exact (walk_l l1 A1 A2 A3 n1 c1 n2 c2 n3 c3 a0 a4 W ho hq h4 e1 (by omega) s1 t1 hm1).mono fin
    | true =>
      cases hm2 : mayB l2 n3 with
      | false => exact (walk_m l1 l2 A1 A2 A3 n1 c1 n2 c2 n3 c3 a0 a4 W ho hq h4 e1 (by omega) s1 t1 hm1 e2 (by omega) s2 t2 hm2).mono fin
      | true =>
        have k1 := (mayB_true hm1).1
        have k2 := (mayB_true hm2).1
        have h23 : n1 + n2 ≤ 23 := by
          have := of_decide_eq_false hq
          unfold wrap64 at this
          omega
        have hj := joins (vars := l3) (arg := a4) (o := a0) ho (l := l1) (m := l2) (by rw [e3]; exact hm1) (by rw [e3]; exact hm2) (by omega)
        have ti1 : ∀ t ∈ l1, I64 t.2 := fun t ht => (t1 t ht).2.2
        have ti2 : ∀ t ∈ l2, I64 t.2 := fun t ht => (t2 t ht).2.2
        rcases hj with ⟨x, y, q1, q2, q3, q4, q5⟩ | ⟨q1, q2 | ⟨x, q2, q3⟩⟩
        · obtain ⟨⟨u, f⟩, hu⟩ : ∃ q, evalR [(1, x), (1, y), (a0, 0)] [] 0 = q := ⟨_, rfl⟩
          exact (walk l1 l2 _ _ l3 a0 a4 x 0 y 0 u f A1 A2 A3 n1 c1 n2 c2 n3 c3 W ho h23 h4 e1 s1 t1 hm1 e2 s2 t2 hm2 e3 s3 t3 b4 rfl rfl q1 q2 (q5.trans hu)
            (.inl ⟨rfl, rfl, I64_stk ti1 t3 b4 q3, I64_stk ti2 t3 b4 q4, hu⟩)).mono fin
        · obtain ⟨⟨y, g⟩, hy⟩ : ∃ q, evalR l2 l3 a4 = q := ⟨_, rfl⟩
          exact (walk l1 l2 _ _ l3 a0 a4 0 18 y g 0 18 A1 A2 A3 n1 c1 n2 c2 n3 c3 W ho h23 h4 e1 s1 t1 hm1 e2 s2 t2 hm2 e3 s3 t3 b4 rfl rfl q2 hy q1 (.inr (.inl ⟨rfl, rfl, rfl⟩))).mono fin
        · exact (walk l1 l2 _ _ l3 a0 a4 x 0 0 18 0 18 A1 A2 A3 n1 c1 n2 c2 n3 c3 W ho h23 h4 e1 s1 t1 hm1 e2 s2 t2 hm2 e3 s3 t3 b4 rfl rfl q2 q3 q1 (.inr (.inr ⟨rfl, rfl, rfl, rfl⟩))).mono fin

set_option maxRecDepth 100000 in
theorem lifted (os : Os) (started : os.Started) (H : Type) (enc : TypeId × Value → H) :
    ReturnsInHanded {} Try.checked os 6 .any (Rows.exprJoinsSpec.pre6 enc Try.prog Try.f6 Rows.exprJoinsRow.domain false) (Rows.exprJoinsSpec.post enc Try.prog Try.f6 false true false false) := by
  refine returnsInHanded_of_change (C := Try.checked) (s := Rows.exprJoinsSpec) own started (by kernel_rfl) Try.func6
    (ChangeSpec.witness6 (enc := enc) (C := Try.checked) false ⟨#[], #[.int .u8 0, .slice none 0 0, .slice none 0 0, .slice none 0 0, .int .i64 0], []⟩ 8 (by kernel_rfl) (by kernel_rfl) (by kernel_rfl) (by kernel_rfl)) ?_
  intro W base args ds gs before hval hW _ _
  exact contract H enc W base args ds gs before hval hW

theorem proved : Rows.ExprJoinsSaid :=
  OpenClaim.holds_of_wide 6 Try.f6 rfl rfl rfl rfl rfl rfl rfl ⟨rfl, rfl, rfl, rfl, rfl⟩ rfl rfl rfl rfl rfl (by kernel_rfl) Try.func6 (by kernel_rfl)
    (of_decide_eq_true (by kernel_rfl)) (by unfold Func.isWrapper; first | (rw [if_pos (by decide +kernel)]; kernel_rfl) | (rw [if_neg (by decide +kernel)]; exact ⟨rfl, rfl⟩))
    (fun os started H enc _ => lifted os started H enc)
end Go.Proofs.Ytdfancdhphdkdaa.exprJoins
