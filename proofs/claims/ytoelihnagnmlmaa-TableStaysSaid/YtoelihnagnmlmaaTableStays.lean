/-
  scrutineerlaw05.TableStays answers true for every input and leaves its input as it was; no condition.
-/
import Derived.Test.YtoelihnagnmlmaaLaw05
namespace Go.Proofs.Ytoelihnagnmlmaa.tableStays
open Go.ChangeShapes Go.WideShapes Go.ChangeAt Go.RowKit

set_option maxRecDepth 100000 in
set_option maxHeartbeats 1600000 in
theorem walk (st vs : Int) (t : Sl RuM) (sa ac pa : Int) (vars : List Int) (arg : Int) (V : Option Addr) (m k : Nat) (w : World) (hs : rusOk w w.heap.size t) (hm : vars.length = m) (hk : k ≤ maxLen) (hmk : m ≤ k) (hsv : Sees w w.heap.size V (iv vars)) (hvi : ∀ v ∈ vars, I64 v) (ha : I64 arg) :
    Calls Try.prog 7 #[tabV st vs t, .int .i64 sa, .int .i64 ac, .int .i64 pa, .slice V m k, .int .i64 arg] w fun e w' => e = .returned (.bool true) ∧ Below w.heap.size w w' := by
  have hm63 : m ≤ 9223372036854775807 := by unfold maxLen at hk; omega
  have hw1 : Below w.heap.size w (w.alloc (.cells #[.int .i64 st, .int .i64 vs, .slice t.A t.l.length t.c] 24)) := (Below.refl _ _).alloc (Nat.le_refl _) _
  have HG := hide_ (Great_any st vs t w.heap.size _ (rus_stable.below hs hw1) hw1.size)
  have HF := hide_ (fun (wr : World) (hb : Below w.heap.size w wr) => Fire_any st vs t sa ac pa vars V m k arg w.heap.size wr hm (rus_stable.below hs hb) (hsv.below hb) hvi ha hb.size)
  have HW := hide_ hw1
  have HX := hide_ (BoxAt.new w #[.int .i64 st, .int .i64 vs, .slice t.A t.l.length t.c] 24)
  have HST := hide_ (fire_stays st vs t.l sa ac pa vars arg)
  have HM := hide_ hm
  clear hs hm hk hmk hsv hvi ha hw1
  generalize fireR st vs t.l sa ac pa vars arg = R at HF HST
  obtain ⟨tA, tc, tl⟩ := t
  simp only [tabV, Sl.v] at HG HF HW HX ⊢
  generalize tl.length = tn at HG HF HW HX ⊢
  go_enter Try.func7, Try.ntmps7
  go_wp2_with fail
  refine HG.out.mono ?_
  rintro en w1 ⟨b, rfl, hb⟩
  have HB := hide_ (HW.out.trans (hb.mono (by simp)))
  have HX1 := hide_ (HX.out.below hb)
  clear hb
  by_cases hfar : b = true ∨ 100 < m
  · have hgo : ∀ (u : World), Below w.heap.size w u → Calls Try.prog 9 #[] u fun e w' => e = .returned (.bool true) ∧ Below w.heap.size w w' := fun u hu =>
      (awake05_any u).mono fun e w' ⟨he, hb⟩ => ⟨he, hu.trans (hb.mono hu.size)⟩
    have HGO := hide_ hgo
    clear hgo
    cases b with
    | true =>
      go_wp2_with fail
      refine (HGO.out _ HB.out).mono ?_
      rintro en w2 ⟨rfl, hb2⟩
      go_wp2
      go_ret
      exact ⟨rfl, hb2⟩
    | false =>
      have h2 : 100 < m := by rcases hfar with h | h; cases h; exact h
      have hd : decide (100 < (m : Int)) = true := decide_eq_true (by omega)
      clear hfar
      go_wp2_with fail
      refine (HGO.out _ HB.out).mono ?_
      rintro en w2 ⟨rfl, hb2⟩
      go_wp2
      go_ret
      exact ⟨rfl, hb2⟩
  obtain rfl : b = false := by cases b <;> simp_all
  have hm100 : m ≤ 100 := by omega
  have hd : decide (100 < (m : Int)) = false := decide_eq_false (by omega)
  have hcx := HX1.out.cell
  clear hfar
  go_wp2_with fail
  refine (HF.out _ HB.out).mono ?_
  rcases HST.out with ⟨er, her, hR⟩ | ⟨s, v, c, hR, hst, hv, hc4, hca⟩
  · subst hR
    have HE := hide_ her
    clear her hcx
    rintro en w2 ⟨A, cc, A2, cc2, rfl, -, -, hb2⟩
    simp only [List.length_nil]
    have HB2 := hide_ (HB.out.trans (hb2.mono HB.out.size))
    have hne : (er != 0) = true := by simpa using HE.out
    clear hb2
    go_wp2_with fail
    refine (awake05_any _).mono ?_
    rintro en w3 ⟨rfl, hb3⟩
    go_wp2
    go_ret
    exact ⟨rfl, HB2.out.trans (hb3.mono HB2.out.size)⟩
  · subst hR
    rintro en w2 ⟨A, cc, A2, cc2, rfl, -, hoc, hb2⟩
    simp only at hoc
    have HB2 := hide_ (HB.out.trans (hb2.mono HB.out.size))
    have HS2 := hide_ (Sees.ownRow hoc)
    have HX2 := hide_ (HX1.out.below hb2)
    have hcx2 := HX2.out.cell
    have HCA := hide_ hca
    obtain ⟨s1, s2⟩ := hst
    obtain ⟨hv1, hv2⟩ := hv
    obtain ⟨n, hn⟩ : ∃ n, c.length = n := ⟨_, rfl⟩
    obtain ⟨q, hq⟩ : ∃ q, v.length = q := ⟨_, rfl⟩
    have HN := hide_ hn
    simp only [hn, hq] at hc4 hv1 hoc ⊢
    clear hoc hb2 hca hn hq hv2 hcx
    subst hv1
    have hz2 : w.heap.size < w2.heap.size := HX2.out.lt
    go_wp2
    go_loop [17] (fun i => ∃ j : Nat, j ≤ n ∧ i = .int .i64 j) (fun i => n - (intOf i).toNat)
    case atStart => exact ⟨0, Nat.zero_le _, rfl⟩
    case round =>
      obtain ⟨j, hj, rfl⟩ := hrel
      by_cases hlt : j < n
      · obtain ⟨x, hx⟩ : ∃ x, c[j]? = some x := ⟨_, List.getElem?_eq_getElem (by rw [HN.out]; exact hlt)⟩
        have hs1 := HS2.out
        obtain ⟨tb, ot, rfl, hab, e0, e1, e2, e3⟩ := hs1.msg hx
        have hxa := HCA.out x (List.mem_of_getElem? hx)
        obtain ⟨x1, x2, x3⟩ := x
        simp only at e1 e2 e3 hxa
        obtain ⟨q1, q2, q3⟩ := hxa
        have d1 : decide (15 < x1) = false := decide_eq_false (by omega)
        have d2 : decide (x2 < 0) = false := decide_eq_false (by omega)
        have d3 : decide (31 < x2) = false := decide_eq_false (by omega)
        clear hx hs1
        go_wp2
        go_round
        case rel => exact ⟨j + 1, by omega, by go_num⟩
        case measure => simp [intOf]; omega
      · obtain rfl : j = n := by omega
        go_wp2_with fail
        refine (awake05_any _).mono ?_
        rintro en w3 ⟨rfl, hb3⟩
        go_wp2
        go_ret
        exact ⟨rfl, HB2.out.trans (hb3.mono HB2.out.size)⟩

theorem own : ownKnob Try.prog.godebug = none := by kernel_rfl
theorem laid : laidOutB Try.prog = true := by kernel_rfl
theorem cells64 : Try.prog.cellsOf 2 = 1 := by kernel_rfl

set_option maxRecDepth 100000 in
theorem contract (H : Type) (enc : TypeId × Value → H) (W : World) (base : Nat) (args : Array Value) (ds gs : List (DataW H)) (before : List MemPlace)
    (hval : ∀ (j : Nat) t v, Try.f7.params[j]? = some t → args[j]? = some v → Value.okWide Try.prog W .any base t v)
    (hW : DataW.Whole enc Try.prog Try.f7.params.toList Rows.tableStaysSpec.vars false W args.toList ds gs before) :
    Calls Try.prog 7 args W fun e W' => ∃ v, e = .returned v ∧ Rows.tableStaysSpec.post enc Try.prog Try.f7 false true false false W args v W' := by
  have hW' := hW
  obtain ⟨p, q, hA0, hV, rfl, hfz, hnd⟩ := hW
  have hA : DataW.TrodAll enc Try.prog W 0 (fun _ => true) true Try.f7.params.toList args.toList ds p := hA0
  rw [Try.params7] at hA hval
  obtain ⟨v0, vs0, d0, ds0, p0, q0, hargs, rfl, rfl, h0, r0⟩ := trodAll_cons hA
  obtain ⟨v1, vs1, d1, ds1, p1, q1, rfl, rfl, rfl, h1, r1⟩ := trodAll_cons r0
  obtain ⟨v2, vs2, d2, ds2, p2, q2, rfl, rfl, rfl, h2, r2⟩ := trodAll_cons r1
  obtain ⟨v3, vs3, d3, ds3, p3, q3, rfl, rfl, rfl, h3, r3⟩ := trodAll_cons r2
  obtain ⟨v4, vs4, d4, ds4, p4, q4, rfl, rfl, rfl, h4, r4⟩ := trodAll_cons r3
  obtain ⟨v5, vs5, d5, ds5, p5, q5, rfl, rfl, rfl, h5, r5⟩ := trodAll_cons r4
  obtain ⟨rfl, rfl, rfl⟩ := trodAll_nil r5
  obtain rfl : args = #[v0, v1, v2, v3, v4, v5] := by cases args; simp_all
  obtain ⟨rfl, rfl⟩ := trodVars_none hV
  obtain ⟨x0, y0, z0, rfl, bx0, by0, bz0⟩ := open_table (hval 0 24 v0 rfl rfl) h0
  obtain ⟨a1, rfl, rfl, rfl, w1⟩ := open_int Try.underlying3 (hval 1 3 v1 rfl rfl) h1
  have b1 : -9223372036854775808 ≤ a1 ∧ a1 ≤ 9223372036854775807 := by simpa [Lit.wf, IntKind.min, IntKind.max, IntKind.signed, IntKind.bits] using w1
  obtain ⟨a2, rfl, rfl, rfl, w2⟩ := open_int Try.underlying3 (hval 2 3 v2 rfl rfl) h2
  have b2 : -9223372036854775808 ≤ a2 ∧ a2 ≤ 9223372036854775807 := by simpa [Lit.wf, IntKind.min, IntKind.max, IntKind.signed, IntKind.bits] using w2
  obtain ⟨a3, rfl, rfl, rfl, w3⟩ := open_int Try.underlying3 (hval 3 3 v3 rfl rfl) h3
  have b3 : -9223372036854775808 ≤ a3 ∧ a3 ≤ 9223372036854775807 := by simpa [Lit.wf, IntKind.min, IntKind.max, IntKind.signed, IntKind.bits] using w3
  obtain ⟨A4, n4, c4, l4, rfl, e4, m4, M4, s4, t4⟩ := open_i64s Try.underlying25 Try.underlying2 cells64 (hval 4 25 v4 rfl rfl) h4
  obtain ⟨a5, rfl, rfl, rfl, w5⟩ := open_int Try.underlying2 (hval 5 2 v5 rfl rfl) h5
  have b5 : -9223372036854775808 ≤ a5 ∧ a5 ≤ 9223372036854775807 := by simpa [Lit.wf, IntKind.min, IntKind.max, IntKind.signed, IntKind.bits] using w5
  have fin : ∀ (e : Ending) (W' : World), e = .returned (.bool true) ∧ Below W.heap.size W W' → ∃ v, e = .returned v ∧ Rows.tableStaysSpec.post enc Try.prog Try.f7 false true false false W #[tabV x0 y0 z0, .int .i64 a1, .int .i64 a2, .int .i64 a3, .slice A4 n4 c4, .int .i64 a5] v W' :=
    fun e W' ⟨he, hb⟩ => ⟨_, he, law_post laid (by kernel_rfl) rfl rfl rfl Try.underlying4 hW' hb⟩
  exact (walk x0 y0 z0 a1 a2 a3 l4 a5 A4 n4 c4 W bz0 e4 M4 m4 s4 t4 b5).mono fin

set_option maxRecDepth 100000 in
theorem lifted (os : Os) (started : os.Started) (H : Type) (enc : TypeId × Value → H) :
    ReturnsInHanded {} Try.checked os 7 .any (Rows.tableStaysSpec.pre6 enc Try.prog Try.f7 Rows.tableStaysRow.domain false) (Rows.tableStaysSpec.post enc Try.prog Try.f7 false true false false) := by
  refine returnsInHanded_of_change (C := Try.checked) (s := Rows.tableStaysSpec) own started (by kernel_rfl) Try.func7
    (ChangeSpec.witness6 (enc := enc) (C := Try.checked) false ⟨#[], #[.agg #[.int .i64 0, .int .i64 0, .slice none 0 0], .int .i64 0, .int .i64 0, .int .i64 0, .slice none 0 0, .int .i64 0], []⟩ 8 (by kernel_rfl) (by kernel_rfl) (by kernel_rfl) (by kernel_rfl)) ?_
  intro W base args ds gs before hval hW _ _
  exact contract H enc W base args ds gs before hval hW

theorem proved : Rows.TableStaysSaid :=
  OpenClaim.holds_of_wide 7 Try.f7 rfl rfl rfl rfl rfl rfl rfl ⟨rfl, rfl, rfl, rfl, rfl⟩ rfl rfl rfl rfl rfl (by kernel_rfl) Try.func7 (by kernel_rfl)
    (of_decide_eq_true (by kernel_rfl)) (by unfold Func.isWrapper; first | (rw [if_pos (by decide +kernel)]; kernel_rfl) | (rw [if_neg (by decide +kernel)]; exact ⟨rfl, rfl⟩))
    (fun os started H enc _ => lifted os started H enc)
end Go.Proofs.Ytoelihnagnmlmaa.tableStays
