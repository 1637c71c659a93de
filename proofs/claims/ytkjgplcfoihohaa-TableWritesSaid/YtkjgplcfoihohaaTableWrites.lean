/-
  scrutineerlaw05.TableWrites answers true for every input and leaves its input as it was; no condition.
-/
import Derived.Test.YtkjgplcfoihohaaSame5
import Derived.Test.YtkjgplcfoihohaaGreat
namespace Go.Proofs.Ytkjgplcfoihohaa.tableWrites
open Go.ChangeShapes Go.WideShapes Go.ChangeAt Go.RowKit

set_option maxRecDepth 100000 in
set_option maxHeartbeats 3200000 in
theorem walk (st vs : Int) (t : Sl RuM) (w : World) (hs : rusOk w w.heap.size t) :
    Calls Try.prog 3 #[tabV st vs t] w fun e w' => e = .returned (.bool true) ∧ Below w.heap.size w w' := by
  have hw1 : Below w.heap.size w (w.alloc (.cells #[.int .i64 st, .int .i64 vs, .slice t.A t.l.length t.c] 24)) := (Below.refl _ _).alloc (Nat.le_refl _) _
  have HG := hide_ (Great_any st vs t w.heap.size _ (rus_stable.below hs hw1) hw1.size)
  have HP := hide_ (fun (u : World) (hb : Below w.heap.size w u) => PutT_any st vs t w.heap.size u (rus_stable.below hs hb) hb.size)
  have HRP := hide_ (fun (u : World) (hb : Below w.heap.size w u) => refPutT_any st vs t w.heap.size u (rus_stable.below hs hb) hb.size)
  have HSA := hide_ (fun (u : World) (x : Sl RuM) (hb : Below w.heap.size w u) (hx : rusOk u u.heap.size x) (he : x.l.map RuM.bare = t.l.map RuM.bare) => refSame5_any st vs x t u.heap.size u hx (rus_stable.more (rus_stable.below hs hb) hb.size) (Nat.le_refl _) he)
  have HW := hide_ hw1
  have HX := hide_ (BoxAt.new w #[.int .i64 st, .int .i64 vs, .slice t.A t.l.length t.c] 24)
  have hR : (mayT st vs t.l = false ∧ putR st vs t.l = ([], 10)) ∨ (mayT st vs t.l = true ∧ (putR st vs t.l = (tabBy st vs t.l, 0) ∧ (tabBy st vs t.l).length ≤ 300000 ∧ tabS (tabBy st vs t.l, 0) = ((st, vs, t.l.map RuM.bare), ([], 0)))) := by
    cases h : mayT st vs t.l with
    | false => exact .inl ⟨rfl, putR_no h⟩
    | true =>
      have h1 := tabS_put hs h []
      rw [List.append_nil] at h1
      exact .inr ⟨rfl, putR_yes h, tabBy_len hs h, h1⟩
  have HRR := hide_ hR
  have HMB := hide_ (bare_mayT st vs t.l)
  obtain ⟨tA, tc, tl⟩ := t
  obtain ⟨n, hn⟩ : ∃ n, tl.length = n := ⟨_, rfl⟩
  simp only [tabV, Sl.v, hn] at HG HP HRP HSA HW HX ⊢
  simp only at HRR HMB
  clear hs hw1 hn hR
  go_enter Try.func3, Try.ntmps3
  go_wp2_with fail
  refine HG.out.mono ?_
  rintro en w1 ⟨b, rfl, hb⟩
  have HB := hide_ (HW.out.trans (hb.mono (by simp)))
  have HX1 := hide_ (HX.out.below hb)
  have hz1 : w.heap.size < w1.heap.size := HX1.out.lt
  have hcx := HX1.out.cell
  clear hb HG
  cases b with
  | true =>
    go_wp2_with fail
    refine (awake05_any _).mono ?_
    rintro en w2 ⟨rfl, hb2⟩
    go_wp2
    go_ret
    exact ⟨rfl, HB.out.trans (hb2.mono HB.out.size)⟩
  | false =>
  obtain ⟨R, hRe⟩ : ∃ R, putR st vs tl = R := ⟨_, rfl⟩
  simp only [hRe] at HP HRP HRR
  obtain ⟨rb, re⟩ := R
  obtain ⟨m, hm⟩ : ∃ m, rb.length = m := ⟨_, rfl⟩
  have HM := hide_ hm
  clear hm hRe
  go_wp2_with fail
  refine (HP.out _ HB.out).mono ?_
  rintro en w2 ⟨A1, c1, rfl, ho1, hb1⟩
  simp only [HM.out] at ho1 ⊢
  have HO1 := hide_ ho1
  have HB2 := hide_ (HB.out.trans (hb1.mono HB.out.size))
  have HX2 := hide_ (HX1.out.below hb1)
  clear ho1 hb1 hcx
  have hz2 : w.heap.size < w2.heap.size := HX2.out.lt
  have hcx := HX2.out.cell
  go_wp2_with fail
  refine (HRP.out _ HB2.out).mono ?_
  rintro en w3 ⟨A2, c2, rfl, ho2, hb2⟩
  simp only [HM.out] at ho2 ⊢
  have k1 := run_str (P := Try.prog) w3 27 9 5 Try.underlying27 Try.underlying5 Try.underlying9 rb _ A1 m c1 HM.out (Sees.own (own_below HO1.out hb2))
  have k2 := run_str (P := Try.prog) w3 27 9 5 Try.underlying27 Try.underlying5 Try.underlying9 rb _ A2 m c2 HM.out (Sees.own ho2)
  have HB3 := hide_ (HB2.out.trans (hb2.mono HB2.out.size))
  have HX3 := hide_ (HX2.out.below hb2)
  have HS3 := hide_ (Sees.own (own_below HO1.out hb2))
  clear ho2 hb2 hcx
  have hz3 : w.heap.size < w3.heap.size := HX3.out.lt
  have hcx := HX3.out.cell
  rcases HRR.out with ⟨_, hR⟩ | ⟨hmy, hR, hlen, hget⟩
  · injection hR with _ hR
    subst hR
    go_wp2_with fail
    refine (awake05_any _).mono ?_
    rintro en w4 ⟨rfl, hb4⟩
    go_wp2
    go_ret
    exact ⟨rfl, HB3.out.trans (hb4.mono HB3.out.size)⟩
  · injection hR with hR1 hR2
    subst hR2
    have HGET := hide_ (GetT_any rb A1 m c1 w3.heap.size w3 st vs (tl.map RuM.bare) HM.out HS3.out (Nat.le_refl _) (by rw [← HM.out, hR1]; omega) (by rw [hR1]; exact hget) (by rw [HMB.out]; exact hmy))
    clear hR1 hlen hget hmy
    go_wp2_with fail
    refine HGET.out.mono ?_
    rintro en w4 ⟨x, rfl, hp, ho, hb4⟩
    have hp2 : x.l.map RuM.bare = tl.map RuM.bare := by
      rw [hp, List.map_map]
      congr 1
      funext r
      simp [RuM.bare, SetM.bare, EmM.bare, Function.comp]
    have HPX := hide_ hp2
    have HB4 := hide_ (HB3.out.trans (hb4.mono HB3.out.size))
    have HX4 := hide_ (HX3.out.below hb4)
    have HO4 := hide_ ho
    clear hp hp2 ho hb4 hcx k1 k2 HGET
    obtain ⟨xA, xc, xl⟩ := x
    simp only [tabV, Sl.v]
    have hz4 : w.heap.size < w4.heap.size := HX4.out.lt
    have hcx := HX4.out.cell
    have HB5 := hide_ (HB4.out.alloc HB4.out.size (.cells #[.int .i64 st, .int .i64 vs, .slice xA xl.length xc] 24))
    have HSX := hide_ (HSA.out _ ⟨xA, xc, xl⟩ HB5.out (rus_local.below HO4.out ((Below.refl _ _).alloc (Nat.le_refl _) _)) HPX.out)
    simp only at HSX
    go_wp2_with fail
    refine HSX.out.mono ?_
    rintro en w5 ⟨rfl, hb5⟩
    have HB6 := hide_ (HB5.out.trans (hb5.mono HB5.out.size))
    clear hb5 hcx
    go_wp2_with fail
    refine (awake05_any _).mono ?_
    rintro en w6 ⟨rfl, hb6⟩
    go_wp2
    go_ret
    exact ⟨rfl, HB6.out.trans (hb6.mono HB6.out.size)⟩

theorem own : ownKnob Try.prog.godebug = none := by kernel_rfl
theorem laid : laidOutB Try.prog = true := by kernel_rfl

set_option maxRecDepth 100000 in
theorem contract (H : Type) (enc : TypeId × Value → H) (W : World) (base : Nat) (args : Array Value) (ds gs : List (DataW H)) (before : List MemPlace)
    (hval : ∀ (j : Nat) t v, Try.f3.params[j]? = some t → args[j]? = some v → Value.okWide Try.prog W .any base t v)
    (hW : DataW.Whole enc Try.prog Try.f3.params.toList Rows.tableWritesSpec.vars false W args.toList ds gs before) :
    Calls Try.prog 3 args W fun e W' => ∃ v, e = .returned v ∧ Rows.tableWritesSpec.post enc Try.prog Try.f3 false true false false W args v W' := by
  have hW' := hW
  obtain ⟨p, q, hA0, hV, rfl, hfz, hnd⟩ := hW
  have hA : DataW.TrodAll enc Try.prog W 0 (fun _ => true) true Try.f3.params.toList args.toList ds p := hA0
  rw [Try.params3] at hA hval
  obtain ⟨v0, vs0, d0, ds0, p0, q0, hargs, rfl, rfl, h0, r0⟩ := trodAll_cons hA
  obtain ⟨rfl, rfl, rfl⟩ := trodAll_nil r0
  obtain rfl : args = #[v0] := by cases args; simp_all
  obtain ⟨rfl, rfl⟩ := trodVars_none hV
  obtain ⟨x0, y0, z0, rfl, bx0, by0, bz0⟩ := open_table (hval 0 24 v0 rfl rfl) h0
  have fin : ∀ (e : Ending) (W' : World), e = .returned (.bool true) ∧ Below W.heap.size W W' → ∃ v, e = .returned v ∧ Rows.tableWritesSpec.post enc Try.prog Try.f3 false true false false W #[tabV x0 y0 z0] v W' :=
    fun e W' ⟨he, hb⟩ => ⟨_, he, law_post laid (by kernel_rfl) rfl rfl rfl Try.underlying4 hW' hb⟩
  exact (walk x0 y0 z0 W bz0).mono fin

set_option maxRecDepth 100000 in
theorem lifted (os : Os) (started : os.Started) (H : Type) (enc : TypeId × Value → H) :
    ReturnsInHanded {} Try.checked os 3 .any (Rows.tableWritesSpec.pre6 enc Try.prog Try.f3 Rows.tableWritesRow.domain false) (Rows.tableWritesSpec.post enc Try.prog Try.f3 false true false false) := by
  refine returnsInHanded_of_change (C := Try.checked) (s := Rows.tableWritesSpec) own started (by kernel_rfl) Try.func3
    (ChangeSpec.witness6 (enc := enc) (C := Try.checked) false ⟨#[], #[.agg #[.int .i64 0, .int .i64 0, .slice none 0 0]], []⟩ 8 (by kernel_rfl) (by kernel_rfl) (by kernel_rfl) (by kernel_rfl)) ?_
  intro W base args ds gs before hval hW _ _
  exact contract H enc W base args ds gs before hval hW

theorem proved : Rows.TableWritesSaid :=
  OpenClaim.holds_of_wide 3 Try.f3 rfl rfl rfl rfl rfl rfl rfl ⟨rfl, rfl, rfl, rfl, rfl⟩ rfl rfl rfl rfl rfl (by kernel_rfl) Try.func3 (by kernel_rfl)
    (of_decide_eq_true (by kernel_rfl)) (by unfold Func.isWrapper; first | (rw [if_pos (by decide +kernel)]; kernel_rfl) | (rw [if_neg (by decide +kernel)]; exact ⟨rfl, rfl⟩))
    (fun os started H enc _ => lifted os started H enc)
end Go.Proofs.Ytkjgplcfoihohaa.tableWrites
