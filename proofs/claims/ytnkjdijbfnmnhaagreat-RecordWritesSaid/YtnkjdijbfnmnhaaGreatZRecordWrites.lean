/-
  scrutineerlaw14.RecordWrites answers true for every input and leaves its input as it was; no condition.
-/
import Derived.Test.YtnkjdijbfnmnhaaGreatJ50
import Derived.Test.YtnkjdijbfnmnhaaGreatJ51
import Derived.Test.YtnkjdijbfnmnhaaGreatJfRecordWrites
namespace Go.Proofs.YtnkjdijbfnmnhaaGreat.recordWrites
open Go.ChangeShapes Go.WideShapes Go.ChangeAt Go.RowKit

section
variable {P : Program} {w : World} {ops : Array Oper} {rest : List Oper} {o : Oper} {a : Act} {Q : Exit → Act → World → Prop}
/-- the walk's step: a row is built -/
theorem bslice_known (ty : TypeId) (n : Nat) (parts : Array (Nat × Operand)) (ho : o.op = .buildSlice ty n parts) (hgd : Region.wanted o (yielded ops a.tmps) = true) (vals : Array (Nat × Value)) (hp : (parts.map fun (i, x) => (i, a.eval x)) = vals) {V : Value} {W : World} (hr : (Instr.buildSlice ty n vals).run P w = .ok V W) (h : wpList P ops Q rest (a.put o.dst V) W) : wpList P ops Q (o :: rest) a w := by
  subst hp
  refine wpList_step fun _ hK => ?_
  rw [if_pos hgd]
  unfold Oper.wp execOp
  simp only [ho, Sem.run_bind, hr, Result.andThen_ok, Sem.run_pure]
  exact hK _ _ h
end

set_option maxRecDepth 100000 in
set_option maxHeartbeats 6400000 in
theorem walk (m0 : RecM) (w : World) (h2 : RecM.wide w w.heap.size m0) :
    Calls Tryz.prog 4 #[m0.v] w fun e w' => e = .returned (.bool true) ∧ Below w.heap.size w w' := by
  have HMW := hide_ (fun (u : World) (h : Below w.heap.size w u) => recw_stable.below h2 h)
  obtain ⟨m, hmm⟩ : ∃ x, x = m0 := ⟨_, rfl⟩
  subst hmm
  have HVM := hide_ (show m.v = .agg m.box from rfl)
  have HMZ := hide_ (show m.box.size = 21 from rfl)
  clear h2
  have HBS := hide_ (fun (u : World) => show (Instr.buildSlice 56 1 #[(0, Value.agg m.box)]).run Tryz.prog u = .ok (.slice (some ⟨u.heap.size, 0, none⟩) 1 1) (u.alloc (.cells m.box 54)) from by obtain ⟨ki, ke, pc, pn, pl, ac, an, al, ⟨rk, inc, st, ⟨vA, vc, vl⟩, ⟨dA, dc, dl⟩, ⟨oA, oc, ol⟩, la, ⟨mA, mc, ml⟩⟩, fe, li, ⟨C, ⟨xA, xc, xl⟩, ⟨yA, yc, yl⟩⟩⟩ := m; kernel_rfl)
  obtain ⟨V, hV⟩ : ∃ V, m.v = V := ⟨_, rfl⟩
  rw [hV] at HVM ⊢
  have HVV := hide_ hV.symm
  clear hV
  go_enter Tryz.func4, Tryz.ntmps4
  go_wp2_with (first | (refine box_whole 54 (by rfl) _ (by rfl) (by rfl) HVM.out ?_; intro W0 HX0 HB0 HZ0) | (refine load_whole 54 (by rfl) _ (by rfl) rec_size rec_row HX0.out (by rfl) HMZ.out ?_) | (refine bslice_known 56 1 _ (by rfl) (by rfl) #[(0, Value.agg m.box)] (by kernel_rfl) (HBS.out _) ?_))
  have HG2 := hide_ (great14_any ⟨some ⟨W0.heap.size, 0, none⟩, 1, [m]⟩ (W0.heap.size + 1) (W0.alloc (.cells m.box 54)) ⟨by simp, by simp [maxLen], by simpa [RecM.cs] using sees_box W0 m.box 54 m.box.toList (by simp), fun x hx => by rw [List.mem_singleton.1 hx]; exact recw_stable.more (HMW.out _ (HB0.out.trans ((Below.refl _ _).alloc (Nat.le_refl _) _ |>.mono HB0.out.size))) (by have := HB0.out.size; omega)⟩ (by simp))
  simp only [Sl.v, List.length_singleton] at HG2
  have HB2 := hide_ (HB0.out.alloc HB0.out.size (.cells m.box 54))
  have HX2 := hide_ (HX0.out.alloc (.cells m.box 54))
  refine HG2.out.mono ?_
  rintro e w1 ⟨b2, rfl, hb2, hg2⟩
  have HB1 := hide_ (HB2.out.trans (hb2.mono HB2.out.size))
  have HX1 := hide_ (HX2.out.below hb2)
  have HGB := hide_ hg2
  clear hb2 hg2 HG2 HB2 HX2 HX0 HB0 HZ0 HBS
  cases b2 with
  | true =>
    go_wp2_with fail
    refine (awake14_any _).mono ?_
    rintro e wz ⟨rfl, hbz⟩
    go_wp2
    go_ret
    exact ⟨rfl, HB1.out.trans (hbz.mono HB1.out.size)⟩
  | false =>
  obtain ⟨_, hm2⟩ := HGB.out (by first | trivial | rfl)
  have hmt := (HMW.out w (Below.refl _ _)).tame (hm2 m (by simp))
  have hm : RecM.good w w.heap.size m := ⟨hmt.1, hmt.2.1, hmt.2.2.1⟩
  clear hm2 hmt HGB HMW
  have HP := hide_ (fun (u : World) (h : Below w.heap.size w u) => recPut_any m w.heap.size u (hm.below h) h.size)
  have HRP := hide_ (fun (u : World) (h : Below w.heap.size w u) => refRecPut_any m w.heap.size u (hm.below h) h.size)
  have HMA := hide_ (fun (u : World) (h : Below w.heap.size w u) => mayRec_any m w.heap.size u (hm.below h) h.size)
  have HMR := hide_ (fun (u : World) (h : Below w.heap.size w u) => refMayRec_any m w.heap.size u (hm.below h) h.size)
  have HY := hide_ (fun h : mayR m.p = true => putRc_yes h)
  have HN := hide_ (fun h : mayR m.p = false => putRc_no h)
  have HGB := hide_ (fun (h : mayR m.p = true) (r : List UInt8) (A : Option Addr) (n c : Nat) (u : World) (hr : recB m.p = r) (hn : r.length = n) (hs : Sees u u.heap.size A (bv r)) => recGet_good r m.p u.heap.size A n c u (hm.snd h) hr hn hs (Nat.le_refl _))
  have HRX := hide_ (fun (x : RecM) (u : World) (hx : RecM.good u u.heap.size x) (hp : x.p = m.p) => show Calls Tryz.prog 19 #[x.v] u (PutsT (putRc m.p) u) from by have g := refRecPut_any x u.heap.size u hx (Nat.le_refl _); rw [hp] at g; exact g)
  simp only [← HVV.out] at HP HRP HMA HMR
  obtain ⟨q, hq⟩ : ∃ q, mayR m.p = q := ⟨_, rfl⟩
  simp only [hq] at HY HN HMA HMR HGB
  obtain ⟨R, hR⟩ : ∃ R, putRc m.p = R := ⟨_, rfl⟩
  simp only [hR] at HP HRP HY HN HRX
  obtain ⟨bs, hbs⟩ : ∃ b, recB m.p = b := ⟨_, rfl⟩
  simp only [hbs] at HY HGB
  clear hq hR hbs hm
  obtain ⟨rb, re⟩ := R
  obtain ⟨n, hn⟩ : ∃ n, rb.length = n := ⟨_, rfl⟩
  have HNL := hide_ hn
  clear hn
  go_wp2_with (refine load_whole 54 (by rfl) _ (by rfl) rec_size rec_row HX1.out (by rfl) HMZ.out ?_; rw [← HVM.out])
  refine (HP.out _ HB1.out).mono ?_
  rintro en w2 ⟨A1, c1, rfl, ho2, hb2⟩
  simp only [HNL.out] at ho2 ⊢
  have HB2 := hide_ (HB1.out.trans (hb2.mono HB1.out.size))
  have HX2 := hide_ (HX1.out.below hb2)
  have HS2 := hide_ (Sees.own ho2)
  clear ho2 hb2 HP HX1
  go_wp2_with (refine load_whole 54 (by rfl) _ (by rfl) rec_size rec_row HX2.out (by rfl) HMZ.out ?_; rw [← HVM.out])
  refine (HRP.out _ HB2.out).mono ?_
  rintro en w3 ⟨A2, c2, rfl, ho3, hb3⟩
  simp only [HNL.out] at ho3 ⊢
  have HB3 := hide_ (HB2.out.trans (hb3.mono HB2.out.size))
  have HX3 := hide_ (HX2.out.below hb3)
  have HS3 := hide_ ((HS2.out.below hb3).more hb3.size)
  have HT3 := hide_ (Sees.own ho3)
  clear ho3 hb3 HRP HX2 HS2 HB2
  have HSS := hide_ (fun (u : World) (h : Below w3.heap.size w3 u) => (⟨HX3.out.below h, run_str (P := Tryz.prog) u 50 9 5 Tryz.underlying50 Tryz.underlying5 Tryz.underlying9 rb _ A1 n c1 HNL.out (HS3.out.below h), run_str (P := Tryz.prog) u 50 9 5 Tryz.underlying50 Tryz.underlying5 Tryz.underlying9 rb _ A2 n c2 HNL.out (HT3.out.below h)⟩ : BoxAt u w.heap.size m.box 54 ∧ (convert 50 9 (.slice A1 n c1)).run Tryz.prog u = .ok (.string (strOf rb)) u ∧ (convert 50 9 (.slice A2 n c2)).run Tryz.prog u = .ok (.string (strOf rb)) u))
  have HB := hide_ (fun (u : World) (h : Below w3.heap.size w3 u) => (HB3.out.trans (h.mono HB3.out.size) : Below w.heap.size w u))
  have HD := hide_ (show Below w3.heap.size w3 w3.drew from (Below.refl _ _).drew)
  go_upto_region 5 with fail
  refine wp_region_held_drew (S := fun u => BoxAt u w.heap.size m.box 54 ∧ (convert 50 9 (.slice A1 n c1)).run Tryz.prog u = .ok (.string (strOf rb)) u ∧ (convert 50 9 (.slice A2 n c2)).run Tryz.prog u = .ok (.string (strOf rb)) u) (by kernel_rfl) (HSS.out _ HD.out) (fun hHeld => ?_)
  refine wpAnyH_take (i := 0) (oi := ⟨some 25, _, _, _, _, _⟩) (v := ?v1) rfl (by kernel_rfl) (by kernel_rfl) (by kernel_rfl) (fun _ _ _ h => h) (Or.inl ⟨by rfl, ?hy1⟩) (by assumption) ?rest1
  case hy1 => intro w hSw; (try dsimp only at hSw); go_simp <;> with_reducible rfl
  simp only [Act.put, List.setIfInBounds_toArray, List.set_cons_zero, List.set_cons_succ]
  refine wpAnyH_take (i := 1) (oi := ⟨some 26, _, _, _, _, _⟩) (v := ?v2) rfl (by kernel_rfl) (by kernel_rfl) (by kernel_rfl) (fun _ _ _ h => h) (Or.inl ⟨by rfl, ?hy2⟩) (by assumption) ?rest2
  case hy2 => intro w hSw; (try dsimp only at hSw); go_simp <;> with_reducible rfl
  simp only [Act.put, List.setIfInBounds_toArray, List.set_cons_zero, List.set_cons_succ]
  refine wpAnyH_take (i := 2) (oi := ⟨some 27, _, _, _, _, _⟩) (v := ?v3) rfl (by kernel_rfl) (by kernel_rfl) (by kernel_rfl) (fun _ _ _ h => h) (Or.inl ⟨by rfl, ?hy3⟩) (by assumption) ?rest3
  case hy3 => intro w hSw; (try dsimp only at hSw); go_simp <;> with_reducible rfl
  simp only [Act.put, List.setIfInBounds_toArray, List.set_cons_zero, List.set_cons_succ]
  refine wpAnyH_take (i := 3) (oi := ⟨some 28, _, _, _, _, _⟩) (v := ?v4) rfl (by kernel_rfl) (by kernel_rfl) (by kernel_rfl) (fun _ _ _ h => h) (Or.inl ⟨by rfl, ?hy4⟩) (by assumption) ?rest4
  case hy4 => intro w hSw; (try dsimp only at hSw); go_simp <;> with_reducible rfl
  simp only [Act.put, List.setIfInBounds_toArray, List.set_cons_zero, List.set_cons_succ]
  refine wpAnyH_take (i := 4) (oi := ⟨some 29, _, _, _, _, _⟩) (v := ?v5) rfl (by kernel_rfl) (by kernel_rfl) (by kernel_rfl) (fun _ _ _ h => h) (Or.inl ⟨by rfl, ?hy5⟩) (by assumption) ?rest5
  case hy5 => intro w hSw; (try dsimp only at hSw); go_simp <;> with_reducible rfl
  simp only [Act.put, List.setIfInBounds_toArray, List.set_cons_zero, List.set_cons_succ]
  refine wpAnyH_take (i := 5) (oi := ⟨some 30, _, _, _, _, _⟩) (v := ?v6) rfl (by kernel_rfl) (by kernel_rfl) (by kernel_rfl) (fun _ _ _ h => h) (Or.inl ⟨by rfl, ?hy6⟩) (by assumption) ?rest6
  case hy6 => intro w hSw; (try dsimp only at hSw); go_simp <;> with_reducible rfl
  simp only [Act.put, List.setIfInBounds_toArray, List.set_cons_zero, List.set_cons_succ]
  refine wpAnyH_take (i := 6) (oi := ⟨some 31, _, _, _, _, _⟩) (v := ?v7) rfl (by kernel_rfl) (by kernel_rfl) (by kernel_rfl) (fun _ _ _ h => h) (Or.inl ⟨by rfl, ?hy7⟩) (by assumption) ?rest7
  case hy7 => intro w hSw; (try dsimp only at hSw); go_simp <;> with_reducible rfl
  simp only [Act.put, List.setIfInBounds_toArray, List.set_cons_zero, List.set_cons_succ]
  refine wpAnyH_take (i := 7) (oi := ⟨some 32, _, _, _, _, _⟩) (v := ?v8) rfl (by kernel_rfl) (by kernel_rfl) (by kernel_rfl) (fun _ _ _ h => h) (Or.inl ⟨by rfl, ?hy8⟩) (by assumption) ?rest8
  case hy8 => intro w hSw; (try dsimp only at hSw); go_simp <;> with_reducible rfl
  simp only [Act.put, List.setIfInBounds_toArray, List.set_cons_zero, List.set_cons_succ]
  refine wpAnyH_take (i := 8) (oi := ⟨some 33, _, _, _, _, _⟩) (v := ?v9) rfl (by kernel_rfl) (by kernel_rfl) (by kernel_rfl) (fun _ _ _ h => h) (Or.inl ⟨by rfl, ?hy9⟩) (by assumption) ?rest9
  case hy9 => intro w hSw; (try dsimp only at hSw); go_simp <;> with_reducible rfl
  simp only [Act.put, List.setIfInBounds_toArray, List.set_cons_zero, List.set_cons_succ]
  refine wpAnyH_take (i := 9) (oi := ⟨some 34, _, _, _, _, _⟩) (v := ?v10) rfl (by kernel_rfl) (by kernel_rfl) (by kernel_rfl) (fun _ _ _ h => h) (Or.inl ⟨by rfl, ?hy10⟩) (by assumption) ?rest10
  case hy10 => intro w hSw; (try dsimp only at hSw); go_simp <;> with_reducible rfl
  simp only [Act.put, List.setIfInBounds_toArray, List.set_cons_zero, List.set_cons_succ]
  refine wpAnyH_take (i := 10) (oi := ⟨some 35, _, _, _, _, _⟩) (v := ?v11) rfl (by kernel_rfl) (by kernel_rfl) (by kernel_rfl) (fun _ _ _ h => h) (Or.inl ⟨by rfl, ?hy11⟩) (by assumption) ?rest11
  case hy11 => intro w hSw; (try dsimp only at hSw); go_simp <;> with_reducible rfl
  simp only [Act.put, List.setIfInBounds_toArray, List.set_cons_zero, List.set_cons_succ]
  refine wpAnyH_take (i := 11) (oi := ⟨some 36, _, _, _, _, _⟩) (v := V) rfl (by kernel_rfl) (by kernel_rfl) (by kernel_rfl) (fun _ _ _ h => h) (yl_whole 54 (by rfl) _ (by rfl) rec_size rec_row HVM.out (fun _ h => h.1) HMZ.out (by rfl)) (by assumption) ?_
  simp only [Act.put, List.setIfInBounds_toArray, List.set_cons_zero, List.set_cons_succ]
  refine wpAnyH_take (i := 13) (oi := ⟨some 38, _, _, _, _, _⟩) (v := V) rfl (by kernel_rfl) (by kernel_rfl) (by kernel_rfl) (fun _ _ _ h => h) (yl_whole 54 (by rfl) _ (by rfl) rec_size rec_row HVM.out (fun _ h => h.1) HMZ.out (by rfl)) (by assumption) ?_
  simp only [Act.put, List.setIfInBounds_toArray, List.set_cons_zero, List.set_cons_succ]
  refine wpAnyH_ready (rs := [12]) (by kernel_rfl) (by simp) ?_
  refine AllReadyH.cons rfl (fun K hK => ?_) AllReadyH.nil
  go_simp
  go_wp2_with fail
  refine (HMA.out _ (HB.out _ HD.out)).mono ?_
  rintro en u1 ⟨rfl, hbu⟩
  have HU1 := hide_ (HD.out.trans (hbu.mono HD.out.size))
  clear hbu
  refine hK.out _ _ (HSS.out _ HU1.out) (fun hHeld => ?_)
  clear hK K
  refine wpAnyH_ready (rs := [14]) (by kernel_rfl) (by simp) ?_
  refine AllReadyH.cons rfl (fun K hK => ?_) AllReadyH.nil
  go_simp
  go_wp2_with fail
  refine (HMR.out _ (HB.out _ HU1.out)).mono ?_
  rintro en u2 ⟨rfl, hbu⟩
  have HU2 := hide_ (HU1.out.trans (hbu.mono HU1.out.size))
  clear hbu
  refine hK.out _ _ (HSS.out _ HU2.out) (fun hHeld => ?_)
  clear hK K
  refine wpAnyH_take (i := 15) (oi := ⟨some 40, _, _, _, _, _⟩) (v := ?v12) rfl (by kernel_rfl) (by kernel_rfl) (by kernel_rfl) (fun _ _ _ h => h) (Or.inl ⟨by rfl, ?hy12⟩) (by assumption) ?rest12
  case hy12 => intro w hSw; (try dsimp only at hSw); go_simp <;> with_reducible rfl
  simp only [Act.put, List.setIfInBounds_toArray, List.set_cons_zero, List.set_cons_succ]
  refine wpAnyH_take (i := 16) (oi := ⟨some 41, _, _, _, _, _⟩) (v := ?v13) rfl (by kernel_rfl) (by kernel_rfl) (by kernel_rfl) (fun _ _ _ h => h) (Or.inl ⟨by rfl, ?hy13⟩) (by assumption) ?rest13
  case hy13 => intro w hSw; (try dsimp only at hSw); go_simp <;> with_reducible rfl
  simp only [Act.put, List.setIfInBounds_toArray, List.set_cons_zero, List.set_cons_succ]
  refine wpAnyH_done (by kernel_rfl) ?_ _
  have HX4 := hide_ (HX3.out.below HU2.out)
  have HS4 := hide_ ((HS3.out.below HU2.out).more HU2.out.size)
  have HB4 := hide_ (HB.out _ HU2.out)
  clear hHeld HSS HB HD HU1 HU2 HX3 HS3 HT3 HB3 HMA HMR
  cases q with
  | false =>
    obtain ⟨rfl, rfl⟩ : rb = [] ∧ re = 3 := by have h := HN.out rfl; injection h with h1 h2; exact ⟨h1, h2⟩
    go_wp2_with fail
    refine (awake14_any _).mono ?_
    rintro e wz ⟨rfl, hbz⟩
    go_wp2
    go_ret
    exact ⟨rfl, HB4.out.trans (hbz.mono HB4.out.size)⟩
  | true =>
  obtain ⟨hrb, rfl⟩ : rb = bs ∧ re = 0 := by have h := HY.out rfl; injection h with h1 h2; exact ⟨h1, h2⟩
  have HG2 := hide_ (HGB.out (by first | trivial | rfl) rb A1 n c1 u2 hrb.symm HNL.out HS4.out)
  clear hrb HY HN HGB
  go_wp2_with fail
  refine HG2.out.mono ?_
  rintro en w5 ⟨x, rfl, hxp, hxg, hb5⟩
  have HB5 := hide_ (HB4.out.trans (hb5.mono HB4.out.size))
  have HS5 := hide_ ((HS4.out.below hb5).more hb5.size)
  have HXP := hide_ hxp
  have HXG := hide_ hxg
  clear hb5 hxp hxg HX4 HB4 HS4 HG2
  have HXS := hide_ x.size'
  have HXO := hide_ x.one'
  have HXV := hide_ (show x.v = .agg x.box from rfl)
  obtain ⟨V2, hV2⟩ : ∃ V, x.v = V := ⟨_, rfl⟩
  rw [hV2] at HXV ⊢
  have HV2 := hide_ hV2
  clear hV2
  go_upto_region 10 with (first | (refine alloc_whole 54 (by rfl) (by rfl) rec_info ?_; intro W6 HX6 HB6 HS6) | (refine store_whole 54 (by rfl) _ _ (by rfl) rec_size (by rfl) (by rfl) (cs := x.box) HXV.out HXS.out HXO.out HX6.out (by rfl) ?_; intro W7 HX7 HG7 HS7))
  have HBW := hide_ (show Below w5.heap.size w5 W7 from HB6.out.grown HG7.out HB6.out.size fun j hj => by injection hj with hj; omega)
  have HB7 := hide_ (HB5.out.trans (HBW.out.mono HB5.out.size))
  have HS7 := hide_ ((HS5.out.below HBW.out).more HBW.out.size)
  have HC := hide_ (HRX.out x W7 ((HXG.out.below HBW.out).more HBW.out.size) HXP.out)
  rw [HV2.out] at HC
  have hzx : w5.heap.size < W7.heap.size := HX7.out.lt
  clear HX6 HB6 HS6 HG7 HBW HB5 HS5 HXG HRX
  go_wp2_with (refine load_whole 54 (by rfl) _ (by rfl) rec_size rec_row HX7.out (by rfl) HXS.out ?_; rw [← HXV.out])
  refine HC.out.mono ?_
  rintro en w8 ⟨A8, c8, rfl, ho8, hb8⟩
  simp only [HNL.out] at ho8 ⊢
  have HB8 := hide_ (HB7.out.trans (hb8.mono HB7.out.size))
  have k1 := run_str (P := Tryz.prog) w8 50 9 5 Tryz.underlying50 Tryz.underlying5 Tryz.underlying9 rb _ A8 n c8 HNL.out (Sees.own ho8)
  have k2 := run_str (P := Tryz.prog) w8 50 9 5 Tryz.underlying50 Tryz.underlying5 Tryz.underlying9 rb _ A1 n c1 HNL.out (HS7.out.below hb8)
  clear ho8 hb8 HC HS7 HB7 HX7 hzx
  go_wp2_with fail
  refine (awake14_any _).mono ?_
  rintro e wz ⟨rfl, hbz⟩
  go_wp2
  go_ret
  exact ⟨rfl, HB8.out.trans (hbz.mono HB8.out.size)⟩

theorem own : ownKnob Tryz.prog.godebug = none := by kernel_rfl
theorem laid : laidOutB Tryz.prog = true := by kernel_rfl

set_option maxRecDepth 100000 in
theorem contract (H : Type) (enc : TypeId × Value → H) (W : World) (base : Nat) (args : Array Value) (ds gs : List (DataW H)) (before : List MemPlace)
    (hval : ∀ (j : Nat) t v, Tryz.f4.params[j]? = some t → args[j]? = some v → Value.okWide Tryz.prog W .any base t v)
    (hW : DataW.Whole enc Tryz.prog Tryz.f4.params.toList Rows.recordWritesSpec.vars false W args.toList ds gs before) :
    Calls Tryz.prog 4 args W fun e W' => ∃ v, e = .returned v ∧ Rows.recordWritesSpec.post enc Tryz.prog Tryz.f4 false true false false W args v W' := by
  have hW' := hW
  obtain ⟨p, q, hA0, hV, rfl, hfz, hnd⟩ := hW
  have hA : DataW.TrodAll enc Tryz.prog W 0 (fun _ => true) true Tryz.f4.params.toList args.toList ds p := hA0
  rw [Tryz.params4] at hA hval
  obtain ⟨v0, vs0, d0, ds0, p0, q0, hargs, rfl, rfl, h0, r0⟩ := trodAll_cons hA
  obtain ⟨rfl, rfl, rfl⟩ := trodAll_nil r0
  obtain rfl : args = #[v0] := by cases args; simp_all
  obtain ⟨rfl, rfl⟩ := trodVars_none hV
  obtain ⟨u0, rfl, bu0⟩ := open_rec (hval 0 54 v0 rfl rfl) h0
  have fin : ∀ (e : Ending) (W' : World), e = .returned (.bool true) ∧ Below W.heap.size W W' → ∃ v, e = .returned v ∧ Rows.recordWritesSpec.post enc Tryz.prog Tryz.f4 false true false false W #[RecM.v u0] v W' :=
    fun e W' ⟨he, hb⟩ => ⟨_, he, law_post laid (by kernel_rfl) rfl rfl rfl Tryz.underlying4 hW' hb⟩
  exact (walk u0 W bu0).mono fin

set_option maxRecDepth 100000 in
theorem lifted (os : Os) (started : os.Started) (H : Type) (enc : TypeId × Value → H) :
    ReturnsInHanded {} Tryz.checked os 4 .any (Rows.recordWritesSpec.pre6 enc Tryz.prog Tryz.f4 Rows.recordWritesRow.domain false) (Rows.recordWritesSpec.post enc Tryz.prog Tryz.f4 false true false false) := by
  refine returnsInHanded_of_change (C := Tryz.checked) (s := Rows.recordWritesSpec) own started (by kernel_rfl) Tryz.func4
    (ChangeSpec.witness6 (enc := enc) (C := Tryz.checked) false ⟨#[], #[.agg #[.int .u8 0, .int .u8 0, .int .u64 0, .int .u8 0, .int .u32 0, .int .u64 0, .int .u8 0, .int .u32 0, .int .u8 0, .int .u64 0, .int .i64 0, .slice none 0 0, .slice none 0 0, .slice none 0 0, .int .u64 0, .slice none 0 0, .int .u64 0, .int .u32 0, .int .u64 0, .slice none 0 0, .slice none 0 0]], []⟩ 8 (by kernel_rfl) (by kernel_rfl) (by kernel_rfl) (by kernel_rfl)) ?_
  intro W base args ds gs before hval hW _ _
  exact contract H enc W base args ds gs before hval hW

theorem proved : Rows.RecordWritesSaid :=
  OpenClaim.holds_of_wide 4 Tryz.f4 rfl rfl rfl rfl rfl rfl rfl ⟨rfl, rfl, rfl, rfl, rfl⟩ rfl rfl rfl rfl rfl (by kernel_rfl) Tryz.func4 closed
    (of_decide_eq_true (by kernel_rfl)) (by unfold Func.isWrapper; first | (rw [if_pos (by decide +kernel)]; kernel_rfl) | (rw [if_neg (by decide +kernel)]; exact ⟨rfl, rfl⟩))
    (fun os started H enc _ => lifted os started H enc)

end Go.Proofs.YtnkjdijbfnmnhaaGreat.recordWrites
