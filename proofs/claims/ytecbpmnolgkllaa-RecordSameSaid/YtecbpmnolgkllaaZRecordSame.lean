/-
  scrutineerlaw14.RecordSame answers true for every input and leaves its input as it was; no condition.
-/
import Derived.Test.YtecbpmnolgkllaaJ51
namespace Go.Proofs.Ytecbpmnolgkllaa.recordSame
open Go.ChangeShapes Go.WideShapes Go.ChangeAt Go.RowKit

set_option maxRecDepth 100000 in
set_option maxHeartbeats 6400000 in
theorem walk (s1 s2 : Sl RecM) (w : World) (h1 : recsOk w w.heap.size s1) (h2 : recsOk w w.heap.size s2) :
    Calls Try.prog 4 #[s1.v, s2.v] w fun e w' => e = .returned (.bool true) ∧ Below w.heap.size w w' := by
  have HG1 := hide_ (great14_any s1 w.heap.size w h1 (Nat.le_refl _))
  have HG2 := hide_ (fun (u : World) (h : Below w.heap.size w u) => great14_any s2 w.heap.size u (recs_stable.below h2 h) h.size)
  have H1 := hide_ h1
  have H2 := hide_ h2
  obtain ⟨A1, cp1, l1⟩ := s1
  obtain ⟨A2, cp2, l2⟩ := s2
  simp only [Sl.v] at HG1 HG2 H1 H2 ⊢
  obtain ⟨n1, hn1⟩ : ∃ n, l1.length = n := ⟨_, rfl⟩
  obtain ⟨n2, hn2⟩ : ∃ n, l2.length = n := ⟨_, rfl⟩
  rw [hn1] at HG1 ⊢
  rw [hn2] at HG2 ⊢
  have HN1 := hide_ hn1
  have HN2 := hide_ hn2
  clear h1 h2 hn1 hn2
  go_enter Try.func4, Try.ntmps4
  go_wp2_with fail
  refine HG1.out.mono ?_
  rintro e w1 ⟨b1, rfl, hb1, hg1⟩
  have HB1 := hide_ hb1
  have HGA := hide_ hg1
  clear hb1 hg1 HG1
  cases b1 with
  | true =>
    go_wp2_with fail
    refine (awake14_any _).mono ?_
    rintro e wz ⟨rfl, hbz⟩
    go_wp2
    go_ret
    exact ⟨rfl, HB1.out.trans (hbz.mono HB1.out.size)⟩
  | false =>
  go_wp2_with fail
  refine (HG2.out _ HB1.out).mono ?_
  rintro e w2 ⟨b2, rfl, hb2, hg2⟩
  have HB2 := hide_ (HB1.out.trans (hb2.mono HB1.out.size))
  have HGB := hide_ hg2
  clear hb2 hg2 HG2
  cases b2 with
  | true =>
    go_wp2_with fail
    refine (awake14_any _).mono ?_
    rintro e wz ⟨rfl, hbz⟩
    go_wp2
    go_ret
    exact ⟨rfl, HB2.out.trans (hbz.mono HB2.out.size)⟩
  | false =>
  obtain ⟨hl1, hm1⟩ := HGA.out (by first | trivial | rfl)
  obtain ⟨hl2, hm2⟩ := HGB.out (by first | trivial | rfl)
  rw [HN1.out] at hl1
  rw [HN2.out] at hl2
  have HT1 := hide_ (tame_of H1.out.2.2.2 hm1)
  have HT2 := hide_ (tame_of H2.out.2.2.2 hm2)
  have HF1 := hide_ (fun (u : World) (h : Below w.heap.size w u) => refFolds_any A1 cp1 l1 n1 w.heap.size u HN1.out hl1 (H1.out.2.2.1.below h) (fun m hm => (HT1.out m hm).below h) h.size)
  have HF2 := hide_ (fun (u : World) (h : Below w.heap.size w u) => refFolds_any A2 cp2 l2 n2 w.heap.size u HN2.out hl2 (H2.out.2.2.1.below h) (fun m hm => (HT2.out m hm).below h) h.size)
  have HX := hide_ (fun (u : World) (h : Below w.heap.size w u) => foldsM_good l1 h.size (fun m hm => (HT1.out m hm).below h))
  have HY := hide_ (fun (u : World) (h : Below w.heap.size w u) => foldsM_good l2 h.size (fun m hm => (HT2.out m hm).below h))
  obtain ⟨x, hx⟩ : ∃ s, foldsM l1 = s := ⟨_, rfl⟩
  simp only [hx] at HX HF1
  clear hx
  obtain ⟨y, hy⟩ : ∃ s, foldsM l2 = s := ⟨_, rfl⟩
  simp only [hy] at HY HF2
  clear hy
  clear hl1 hl2 hm1 hm2 HGA HGB HT1 HT2 H1 H2
  have HS1 := hide_ (fun (u : World) (h : Below w.heap.size w u) => sameState_any x y u.heap.size u (HX.out u h) (HY.out u h) (Nat.le_refl _))
  have HS2 := hide_ (fun (u : World) (h : Below w.heap.size w u) => refSameState_any x y u.heap.size u (HX.out u h) (HY.out u h) (Nat.le_refl _))
  have HS3 := hide_ (fun (u : World) (h : Below w.heap.size w u) => sameState_any x x u.heap.size u (HX.out u h) (HX.out u h) (Nat.le_refl _))
  rw [sameSt_refl] at HS3
  obtain ⟨q, hq⟩ : ∃ q, sameSt x.p y.p = q := ⟨_, rfl⟩
  simp only [hq] at HS1 HS2
  clear hq HX HY
  have HVX := hide_ (show x.v = .agg x.box from rfl)
  have HZX := hide_ x.box_size
  have HOX := hide_ x.one
  obtain ⟨VX, hVX⟩ : ∃ V, x.v = V := ⟨_, rfl⟩
  rw [hVX] at HVX
  simp only [hVX] at HF1 HS1 HS2 HS3
  clear hVX
  have HVY := hide_ (show y.v = .agg y.box from rfl)
  have HZY := hide_ y.box_size
  have HOY := hide_ y.one
  obtain ⟨VY, hVY⟩ : ∃ V, y.v = V := ⟨_, rfl⟩
  rw [hVY] at HVY
  simp only [hVY] at HF2 HS1 HS2 
  clear hVY
  have HZB := hide_ zeroSt.box_size
  go_wp2_with fail
  refine (HF1.out _ HB2.out).mono ?_
  rintro e w3 ⟨rfl, hb3⟩
  have HB3 := hide_ (HB2.out.trans (hb3.mono HB2.out.size))
  clear hb3
  go_wp2_with fail
  refine (HF2.out _ HB3.out).mono ?_
  rintro e w4 ⟨rfl, hb4⟩
  have HB4 := hide_ (HB3.out.trans (hb4.mono HB3.out.size))
  clear hb4
  go_upto_region 4 with (first | (refine store_whole 62 (by rfl) _ _ (by rfl) sta_size (by rfl) (by rfl) (cs := x.box) HVX.out HZX.out HOX.out (HX5.out.below HB6.out) HZB.out ?_; intro W7 HX7 HG7 HZ7; have HY7 := hide_ (show BoxAt W7 W5.heap.size zeroSt.box 62 from (HG7.out.block _ HY6.out.lt (fun e => by injection e with e; have := HZ5.out; omega)).trans HY6.out)) | (refine store_whole 62 (by rfl) _ _ (by rfl) sta_size (by rfl) (by rfl) (cs := y.box) HVY.out HZY.out HOY.out HY7.out HZB.out ?_; intro W8 HY8 HG8 HZ8) | (refine alloc_whole 62 (by rfl) (by rfl) sta_zero ?_; intro W5 HX5 HB5 HZ5; simp only [Act.put, List.setIfInBounds_toArray, List.set_cons_zero, List.set_cons_succ]; refine alloc_whole 62 (by rfl) (by rfl) sta_zero ?_; intro W6 HY6 HB6 HZ6))
  have h5 := HZ5.out
  have h6 := HZ6.out
  have HX8 := hide_ (show BoxAt W8 w4.heap.size x.box 62 from (HG8.out.block _ HX7.out.lt (fun e => by injection e with e; omega)).trans HX7.out)
  have HB8 := hide_ (show Below w.heap.size w W8 from by
    have a5 := HB4.out.trans (HB5.out.mono HB4.out.size)
    have a6 := a5.trans (HB6.out.mono a5.size)
    have a7 := a6.grown HG7.out a6.size (fun q hq => by injection hq with hq; have := HB4.out.size; omega)
    exact a7.grown HG8.out a7.size (fun q hq => by injection hq with hq; have := HB4.out.size; omega))
  obtain ⟨gx, hgx⟩ : ∃ g, w4.heap.size = g := ⟨_, rfl⟩
  obtain ⟨gy, hgy⟩ : ∃ g, W5.heap.size = g := ⟨_, rfl⟩
  rw [hgx] at HX8 ⊢
  rw [hgy] at HY8 ⊢
  clear h5 h6 hgx hgy HX5 HB5 HZ5 HY6 HB6 HZ6 HX7 HG7 HZ7 HY7 HG8 HZ8 HB4 HB3 HB2 HB1 HF1 HF2
  have HSS := hide_ (fun (u : World) (h : Below W8.heap.size W8 u) => (⟨HX8.out.below h, HY8.out.below h⟩ : BoxAt u gx x.box 62 ∧ BoxAt u gy y.box 62))
  have HB := hide_ (fun (u : World) (h : Below W8.heap.size W8 u) => (HB8.out.trans (h.mono HB8.out.size) : Below w.heap.size w u))
  have HU0 := hide_ (show Below W8.heap.size W8 W8.drew from (Below.refl _ _).drew)
  refine wp_region_held_drew (S := fun u => BoxAt u gx x.box 62 ∧ BoxAt u gy y.box 62) (by kernel_rfl) (HSS.out _ HU0.out) (fun hHeld => ?_)
  refine wpAnyH_take (i := 0) (oi := ⟨some 18, _, _, _, _, _⟩) (v := VX) rfl (by kernel_rfl) (by kernel_rfl) (by kernel_rfl) (fun _ _ _ h => h) (yl_whole 62 (by rfl) _ (by rfl) sta_size sta_row HVX.out (fun _ h => h.1) HZX.out (by rfl)) (by assumption) ?_
  simp only [Act.put, sTI, sT0, sT1]
  refine wpAnyH_take (i := 1) (oi := ⟨some 19, _, _, _, _, _⟩) (v := VY) rfl (by kernel_rfl) (by kernel_rfl) (by kernel_rfl) (fun _ _ _ h => h) (yl_whole 62 (by rfl) _ (by rfl) sta_size sta_row HVY.out (fun _ h => h.2) HZY.out (by rfl)) (by assumption) ?_
  simp only [Act.put, sTI, sT0, sT1]
  refine wpAnyH_take (i := 3) (oi := ⟨some 21, _, _, _, _, _⟩) (v := VX) rfl (by kernel_rfl) (by kernel_rfl) (by kernel_rfl) (fun _ _ _ h => h) (yl_whole 62 (by rfl) _ (by rfl) sta_size sta_row HVX.out (fun _ h => h.1) HZX.out (by rfl)) (by assumption) ?_
  simp only [Act.put, sTI, sT0, sT1]
  refine wpAnyH_take (i := 4) (oi := ⟨some 22, _, _, _, _, _⟩) (v := VY) rfl (by kernel_rfl) (by kernel_rfl) (by kernel_rfl) (fun _ _ _ h => h) (yl_whole 62 (by rfl) _ (by rfl) sta_size sta_row HVY.out (fun _ h => h.2) HZY.out (by rfl)) (by assumption) ?_
  simp only [Act.put, sTI, sT0, sT1]
  refine wpAnyH_ready (rs := [2]) (by kernel_rfl) (by simp) ?_
  refine AllReadyH.cons rfl (fun K hK => ?_) AllReadyH.nil
  go_simp
  go_wp2_with fail
  refine (HS1.out _ (HB.out _ HU0.out)).mono ?_
  rintro en u1 ⟨rfl, hbu⟩
  have HU1 := hide_ (HU0.out.trans (hbu.mono HU0.out.size))
  clear hbu
  refine hK.out _ _ (HSS.out _ HU1.out) (fun hHeld => ?_)
  clear hK K
  refine wpAnyH_ready (rs := [5]) (by kernel_rfl) (by simp) ?_
  refine AllReadyH.cons rfl (fun K hK => ?_) AllReadyH.nil
  go_simp
  go_wp2_with fail
  refine (HS2.out _ (HB.out _ HU1.out)).mono ?_
  rintro en u2 ⟨rfl, hbu⟩
  have HU2 := hide_ (HU1.out.trans (hbu.mono HU1.out.size))
  clear hbu
  refine hK.out _ _ (HSS.out _ HU2.out) (fun hHeld => ?_)
  clear hK K
  refine tkY 6 24 (.bool true) rfl ?hy1 (by assumption) ?rest1
  case hy1 => intro w hSw; clear hSw; go_simp <;> with_reducible rfl
  simp only [Act.put, sTI, sT0, sT1]
  refine tkY 7 25 (.bool true) rfl ?hy2 (by assumption) ?rest2
  case hy2 => intro w hSw; clear hSw; go_simp <;> with_reducible rfl
  simp only [Act.put, sTI, sT0, sT1]
  refine wpAnyH_take (i := 8) (oi := ⟨some 26, _, _, _, _, _⟩) (v := VX) rfl (by kernel_rfl) (by kernel_rfl) (by kernel_rfl) (fun _ _ _ h => h) (yl_whole 62 (by rfl) _ (by rfl) sta_size sta_row HVX.out (fun _ h => h.1) HZX.out (by rfl)) (by assumption) ?_
  simp only [Act.put, sTI, sT0, sT1]
  refine wpAnyH_take (i := 9) (oi := ⟨some 27, _, _, _, _, _⟩) (v := VX) rfl (by kernel_rfl) (by kernel_rfl) (by kernel_rfl) (fun _ _ _ h => h) (yl_whole 62 (by rfl) _ (by rfl) sta_size sta_row HVX.out (fun _ h => h.1) HZX.out (by rfl)) (by assumption) ?_
  simp only [Act.put, sTI, sT0, sT1]
  refine wpAnyH_ready (rs := [10]) (by kernel_rfl) (by simp) ?_
  refine AllReadyH.cons rfl (fun K hK => ?_) AllReadyH.nil
  go_simp
  go_wp2_with fail
  refine (HS3.out _ (HB.out _ HU2.out)).mono ?_
  rintro en u3 ⟨rfl, hbu⟩
  have HU3 := hide_ (HU2.out.trans (hbu.mono HU2.out.size))
  clear hbu
  refine hK.out _ _ (HSS.out _ HU3.out) (fun hHeld => ?_)
  clear hK K
  refine tkY 11 29 (.bool true) rfl ?hy3 (by assumption) ?rest3
  case hy3 => intro w hSw; clear hSw; go_simp <;> with_reducible rfl
  simp only [Act.put, sTI, sT0, sT1]
  refine tkY 12 30 (.bool true) rfl ?hy4 (by assumption) ?rest4
  case hy4 => intro w hSw; clear hSw; go_simp <;> with_reducible rfl
  simp only [Act.put, sTI, sT0, sT1]
  refine wpAnyH_ready (rs := [13]) (by kernel_rfl) (by simp) ?_
  refine AllReadyH.cons rfl (fun K hK => ?_) AllReadyH.nil
  go_simp
  go_wp2_with fail
  refine (awake14_any _).mono ?_
  rintro en u4 ⟨rfl, hbu⟩
  have HU4 := hide_ (HU3.out.trans (hbu.mono HU3.out.size))
  clear hbu
  refine hK.out _ _ (HSS.out _ HU4.out) (fun hHeld => ?_)
  clear hK K
  refine tkY 14 32 (.bool true) rfl ?hy5 (by assumption) ?rest5
  case hy5 => intro w hSw; clear hSw; go_simp <;> with_reducible rfl
  simp only [Act.put, sTI, sT0, sT1]
  refine tkY 15 4 (.bool true) rfl ?hy6 (by assumption) ?rest6
  case hy6 => intro w hSw; clear hSw; go_simp <;> with_reducible rfl
  simp only [Act.put, sTI, sT0, sT1]
  refine wpAnyH_done (by kernel_rfl) ?_ _
  clear hHeld
  have HBE := hide_ (HB.out _ HU4.out)
  go_wp2
  go_ret
  exact ⟨rfl, HBE.out⟩

theorem own : ownKnob Try.prog.godebug = none := by kernel_rfl
theorem laid : laidOutB Try.prog = true := by kernel_rfl

set_option maxRecDepth 100000 in
theorem contract (H : Type) (enc : TypeId × Value → H) (W : World) (base : Nat) (args : Array Value) (ds gs : List (DataW H)) (before : List MemPlace)
    (hval : ∀ (j : Nat) t v, Try.f4.params[j]? = some t → args[j]? = some v → Value.okWide Try.prog W .any base t v)
    (hW : DataW.Whole enc Try.prog Try.f4.params.toList Rows.recordSameSpec.vars false W args.toList ds gs before) :
    Calls Try.prog 4 args W fun e W' => ∃ v, e = .returned v ∧ Rows.recordSameSpec.post enc Try.prog Try.f4 false true false false W args v W' := by
  have hW' := hW
  obtain ⟨p, q, hA0, hV, rfl, hfz, hnd⟩ := hW
  have hA : DataW.TrodAll enc Try.prog W 0 (fun _ => true) true Try.f4.params.toList args.toList ds p := hA0
  rw [Try.params4] at hA hval
  obtain ⟨v0, vs0, d0, ds0, p0, q0, hargs, rfl, rfl, h0, r0⟩ := trodAll_cons hA
  obtain ⟨v1, vs1, d1, ds1, p1, q1, rfl, rfl, rfl, h1, r1⟩ := trodAll_cons r0
  obtain ⟨rfl, rfl, rfl⟩ := trodAll_nil r1
  obtain rfl : args = #[v0, v1] := by cases args; simp_all
  obtain ⟨rfl, rfl⟩ := trodVars_none hV
  obtain ⟨u0, rfl, bu0⟩ := open_recs (hval 0 44 v0 rfl rfl) h0
  obtain ⟨u1, rfl, bu1⟩ := open_recs (hval 1 44 v1 rfl rfl) h1
  have fin : ∀ (e : Ending) (W' : World), e = .returned (.bool true) ∧ Below W.heap.size W W' → ∃ v, e = .returned v ∧ Rows.recordSameSpec.post enc Try.prog Try.f4 false true false false W #[Sl.v u0, Sl.v u1] v W' :=
    fun e W' ⟨he, hb⟩ => ⟨_, he, law_post laid (by kernel_rfl) rfl rfl rfl Try.underlying4 hW' hb⟩
  exact (walk u0 u1 W bu0 bu1).mono fin

set_option maxRecDepth 100000 in
theorem lifted (os : Os) (started : os.Started) (H : Type) (enc : TypeId × Value → H) :
    ReturnsInHanded {} Try.checked os 4 .any (Rows.recordSameSpec.pre6 enc Try.prog Try.f4 Rows.recordSameRow.domain false) (Rows.recordSameSpec.post enc Try.prog Try.f4 false true false false) := by
  refine returnsInHanded_of_change (C := Try.checked) (s := Rows.recordSameSpec) own started (by kernel_rfl) Try.func4
    (ChangeSpec.witness6 (enc := enc) (C := Try.checked) false ⟨#[], #[.slice none 0 0, .slice none 0 0], []⟩ 8 (by kernel_rfl) (by kernel_rfl) (by kernel_rfl) (by kernel_rfl)) ?_
  intro W base args ds gs before hval hW _ _
  exact contract H enc W base args ds gs before hval hW

theorem proved : Rows.RecordSameSaid :=
  OpenClaim.holds_of_wide 4 Try.f4 rfl rfl rfl rfl rfl rfl rfl ⟨rfl, rfl, rfl, rfl, rfl⟩ rfl rfl rfl rfl rfl (by kernel_rfl) Try.func4 (by kernel_rfl)
    (of_decide_eq_true (by kernel_rfl)) (by unfold Func.isWrapper; first | (rw [if_pos (by decide +kernel)]; kernel_rfl) | (rw [if_neg (by decide +kernel)]; exact ⟨rfl, rfl⟩))
    (fun os started H enc _ => lifted os started H enc)

end Go.Proofs.Ytecbpmnolgkllaa.recordSame
