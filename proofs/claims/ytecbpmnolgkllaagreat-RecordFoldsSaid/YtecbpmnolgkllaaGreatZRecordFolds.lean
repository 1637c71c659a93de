/-
  scrutineerlaw14.RecordFolds answers true for every input and leaves its input as it was; no condition.
-/
import Derived.Test.YtecbpmnolgkllaaGreatJ51
namespace Go.Proofs.YtecbpmnolgkllaaGreat.recordFolds
open Go.ChangeShapes Go.WideShapes Go.ChangeAt Go.RowKit

theorem upR_tame {w : World} {B : Nat} {y : StaM} (hy : StaM.good w B y) {k : Nat} (hk : k ≤ 16) : ∀ m ∈ upR y k, RecM.tame w B m := by
  intro m hm
  have z1 := zeroM_ok w B
  have z2 := zeroCf_ok w B
  have zf := few_zero
  have n0 : N64 0 := by simp [N64]
  have m0 : N32 0 := by simp [N32]
  unfold upR headR flL at hm
  simp only [List.mem_append] at hm
  rcases hm with ((h | h) | h) | h
  · unfold feL at h
    split at h
    · cases h
    · rw [List.mem_singleton.1 h]
      exact ⟨⟨⟨⟨show 3 ≤ 255 by decide, Nat.zero_le _⟩, ⟨n0, Nat.zero_le _, Nat.zero_le _⟩, ⟨n0, Nat.zero_le _, Nat.zero_le _⟩, hy.fe, m0⟩, z1, z2⟩, zf⟩
  · unfold liL at h
    split at h
    · cases h
    · rw [List.mem_singleton.1 h]
      exact ⟨⟨⟨⟨show 4 ≤ 255 by decide, Nat.zero_le _⟩, ⟨n0, Nat.zero_le _, Nat.zero_le _⟩, ⟨n0, Nat.zero_le _, Nat.zero_le _⟩, n0, hy.li⟩, z1, z2⟩, zf⟩
  · unfold cfL at h
    split at h
    · rw [List.mem_singleton.1 h]
      exact ⟨⟨⟨⟨show 5 ≤ 255 by decide, Nat.zero_le _⟩, ⟨n0, Nat.zero_le _, Nat.zero_le _⟩, ⟨n0, Nat.zero_le _, Nat.zero_le _⟩, n0, m0⟩, z1, hy.cf⟩, zf⟩
    · cases h
  · unfold slL at h
    obtain ⟨i, hi, hm⟩ := List.mem_flatMap.1 h
    rw [List.mem_range] at hi
    have g := hy.sl i (by omega)
    split at hm
    · rw [List.mem_singleton.1 hm]
      exact ⟨⟨⟨⟨by show 1 ≤ 255; decide, by show i ≤ 255; omega⟩, g.1.1.1, g.1.1.2, n0, m0⟩, g.1.2, z2⟩, g.2⟩
    · cases hm
theorem upP_next (s : StaP) {i : Nat} {p q : RecP} (h1 : (upP s 16)[i]? = some p) (h2 : (upP s 16)[i + 1]? = some q) (hp : p.ki = 1) (hq : q.ki = 1) : p.ke < q.ke := by
  have hh : List.Pairwise (fun a c : RecP => a.ki = 1 → c.ki = 1 → a.ke < c.ke) (upP s 16) := by
    unfold upP
    have hd : ∀ a ∈ feP s ++ liP s ++ cfP14 s, ¬ a.ki = 1 := by
      intro a ha
      simp only [List.mem_append] at ha
      rcases ha with (h | h) | h
      · unfold feP at h
        split at h
        · cases h
        · rw [List.mem_singleton.1 h]; exact (by decide : ¬ 3 = 1)
      · unfold liP at h
        split at h
        · cases h
        · rw [List.mem_singleton.1 h]; exact (by decide : ¬ 4 = 1)
      · unfold cfP14 at h
        split at h
        · rw [List.mem_singleton.1 h]; exact (by decide : ¬ 5 = 1)
        · cases h
    rw [List.pairwise_append]
    refine ⟨?_, (slP_rise s 16).2.imp (fun h _ _ => h), fun a ha c _ h => absurd h (hd a ha)⟩
    exact List.Pairwise.imp_of_mem (R := fun _ _ => True) (fun ha _ _ h => absurd h (hd _ ha)) (by rw [List.pairwise_iff_getElem]; intros; trivial)
  obtain ⟨l1, e1⟩ := List.getElem?_eq_some_iff.1 h1
  obtain ⟨l2, e2⟩ := List.getElem?_eq_some_iff.1 h2
  have := List.pairwise_iff_getElem.1 hh i (i + 1) l1 l2 (by omega)
  rw [e1, e2] at this
  exact this hp hq

-- what the walk and its region 13 and 15 name: refMayRec_any sameState_any refSameState_any sameSt_refl fold_all inv14_folds upP_may upP_of slP_rise slP upP mayR refFolds_any awake14_any All_any Fold_any14 great14_any tkY tkN yl_whole yl_part yl_range rec14 load_range step_load_whole step_store_whole recs_info recsL recsL_len feP liP cfP14 pSl pFe pLi pCf upR allR mayR_kind mayR_key sTI sT0 sT1 foldsM_good foldsM_p tame_of
set_option maxRecDepth 100000 in
set_option maxHeartbeats 6400000 in
theorem walk (s1 : Sl RecM) (w : World) (h1 : recsOk w w.heap.size s1) :
    Calls Tryz.prog 5 #[s1.v] w fun e w' => e = .returned (.bool true) ∧ Below w.heap.size w w' := by
  have H1 := hide_ h1
  have HG1 := hide_ (great14_any s1 w.heap.size w h1 (Nat.le_refl _))
  obtain ⟨A1, cp1, l1⟩ := s1
  simp only [Sl.v] at HG1 H1 ⊢
  obtain ⟨n1, hn1⟩ : ∃ n, l1.length = n := ⟨_, rfl⟩
  rw [hn1] at HG1 ⊢
  have HN1 := hide_ hn1
  clear h1 hn1
  go_enter Tryz.func5, Tryz.ntmps5
  go_wp2_with fail
  refine HG1.out.mono ?_
  rintro e w3 ⟨b1, rfl, hb1, hg1⟩
  have HB3 := hide_ hb1
  have HGA := hide_ hg1
  clear hb1 hg1 HG1
  cases b1 with
  | true =>
    go_wp2_with fail
    refine (awake14_any _).mono ?_
    rintro e wz ⟨rfl, hbz⟩
    go_wp2
    go_ret
    exact ⟨rfl, HB3.out.trans (hbz.mono HB3.out.size)⟩
  | false =>
  obtain ⟨hl1, hm1⟩ := HGA.out (by first | trivial | rfl)
  rw [HN1.out] at hl1
  have HT1 := hide_ (tame_of H1.out.2.2.2 hm1)
  have HS := hide_ H1.out.2.2.1
  have HZB := hide_ zeroSt.box_size
  have HZO := hide_ zeroSt.one
  have HFW := hide_ (fun (u : World) (h : Below w.heap.size w u) => refFolds_any A1 cp1 l1 n1 w.heap.size u HN1.out hl1 (H1.out.2.2.1.below h) (fun m hm => (HT1.out m hm).below h) h.size)
  have HWG := hide_ (fun (u : World) (h : Below w.heap.size w u) => foldsM_good l1 h.size (fun m hm => (HT1.out m hm).below h))
  have HWP := hide_ (foldsM_p l1)
  obtain ⟨want, hwant⟩ : ∃ s, foldsM l1 = s := ⟨_, rfl⟩
  simp only [hwant] at HFW HWG HWP
  clear hm1 HGA H1 hwant
  go_upto_region 4 with (first | (refine build_known 68 _ (by rfl) (by rfl) (V := .agg zeroSt.box) (by kernel_rfl) ?_) | (refine alloc_whole 68 (by rfl) (by rfl) sta_zero ?_; intro W4 HY4 HB4 HZ4) | (refine store_whole 68 (by rfl) _ _ (by rfl) sta_size (by rfl) (by rfl) (cs := zeroSt.box) (by rfl) HZB.out HZO.out HY4.out HZB.out ?_; intro W5 HY5 HG5 HZ5))
  have HB5 := hide_ (show Below w.heap.size w W5 from by
    have a4 := HB3.out.trans (HB4.out.mono HB3.out.size)
    exact a4.grown HG5.out a4.size (fun q hq => by injection hq with hq; have := HB3.out.size; omega))
  obtain ⟨g5, hg5⟩ : ∃ g, w3.heap.size = g := ⟨_, rfl⟩
  have HGL := hide_ (show w.heap.size ≤ g5 from by have := HB3.out.size; omega)
  rw [hg5] at HY5 ⊢
  clear hg5 HY4 HB4 HZ4 HG5 HZ5 HB3
  have HSA5 := hide_ (SAside.zero W5 (some g5))
  go_upto_region 5 with fail
  go_loopw [4] (fun i wr => ∃ (k : Nat) (s : StaM), k ≤ n1 ∧ i = .int .i64 k ∧ Hid (s.p = foldsP ((l1.take k).map RecM.p)) ∧ Hid (SAside wr (some g5) s) ∧ Hid (BoxAt wr g5 s.box 68) ∧ Hid (Below w.heap.size w wr)) (fun i _ => n1 - (intOf i).toNat)
  case atStart => exact ⟨0, zeroSt, Nat.zero_le _, rfl, hide_ rfl, HSA5, HY5, HB5⟩
  case round =>
    obtain ⟨k, s, hk, rfl, HP, HSA, HY, HB⟩ := hrel
    by_cases hlt : k < n1
    case neg =>
      have hkn : n1 = k := by omega
      subst hkn
      have hp := HP.out
      rw [List.take_of_length_le (by rw [HN1.out]; exact Nat.le_refl _)] at hp
      have HSP := hide_ hp
      clear hp
      have HIV := hide_ (show Inv14 s.p from by rw [HSP.out]; exact inv14_folds _)
      have HWS := hide_ (show want.p = s.p from HWP.out.trans HSP.out.symm)
      have HXZ := hide_ want.box_size
      have HXO := hide_ want.one
      have HXV := hide_ (show want.v = .agg want.box from rfl)
      obtain ⟨VX, hVX⟩ : ∃ V, want.v = V := ⟨_, rfl⟩
      rw [hVX] at HXV
      simp only [hVX] at HFW
      have HVX := hide_ hVX
      clear hVX
      have HSZ := hide_ s.box_size
      have HSV := hide_ (show s.v = .agg s.box from rfl)
      have HAL := hide_ (fun (u : World) (h : Below wr.heap.size wr u) => All_any s u.heap.size u (HSA.out.step h).good (Nat.le_refl _))
      obtain ⟨VS, hVS⟩ : ∃ V, s.v = V := ⟨_, rfl⟩
      simp only [hVS] at HAL
      rw [hVS] at HSV
      have HVS := hide_ hVS
      clear hVS
      go_wp2_with fail
      refine (HFW.out _ HB.out).mono ?_
      rintro e w6 ⟨rfl, hb6⟩
      have HY6 := hide_ (HY.out.below hb6)
      have HB6 := hide_ (HB.out.trans (hb6.mono HB.out.size))
      have HL6 := hide_ hb6
      clear hb6 HFW
      go_upto_region 9 with (first | (refine alloc_whole 68 (by rfl) (by rfl) sta_zero ?_; intro W7 HQ7 HB7 HZ7) | (refine store_whole 68 (by rfl) _ _ (by rfl) sta_size (by rfl) (by rfl) (cs := want.box) HXV.out HXZ.out HXO.out HQ7.out HZB.out ?_; intro W8 HQ8 HG8 HZ8))
      obtain ⟨g7, hg7⟩ : ∃ g, w6.heap.size = g := ⟨_, rfl⟩
      have HG78 := hide_ (show w6.grownBy W8 (some g7) from grown_join (grown_below (World.grownBy.refl w6 (some g7)) HB7.out) (hg7 ▸ HG8.out))
      have HBW := hide_ (show Below w6.heap.size w6 W8 from (Below.refl _ _).grown HG78.out (Nat.le_refl _) (fun q hq => by injection hq with hq; omega))
      rw [hg7] at HQ8 ⊢
      have HY8 := hide_ (HY6.out.below HBW.out)
      have HB8 := hide_ (HB6.out.trans (HBW.out.mono HB6.out.size))
      have HL8 := hide_ (HL6.out.trans (HBW.out.mono HL6.out.size))
      clear hg7 HQ7 HB7 HZ7 HG8 HZ8 HG78 HY6 HB6 HL6 HBW HXO
      go_wp2_with (refine load_whole 68 (by rfl) _ (by rfl) sta_size sta_row HY8.out (by rfl) HSZ.out ?_; rw [← HSV.out])
      refine (HAL.out _ HL8.out).mono ?_
      rintro e w9 ⟨y, A9, c9, rfl, hyp, hyg, hsee, hb9⟩
      have HUP := hide_ ((upP_of y 16).trans (by rw [hyp]))
      have HYG := hide_ hyg
      have HSE := hide_ hsee
      have HY9 := hide_ (HY8.out.below hb9)
      have HQ9 := hide_ (HQ8.out.below hb9)
      have HB9 := hide_ (HB8.out.trans (hb9.mono HB8.out.size))
      have HL9 := hide_ (HL8.out.trans (hb9.mono HL8.out.size))
      clear hyp hyg hsee hb9 HY8 HQ8 HB8 HL8 HAL
      go_upto_region 11 with fail
      obtain ⟨L9, hL9⟩ : ∃ l, allR y = l := ⟨_, rfl⟩
      have HTM := hide_ (show ∀ m ∈ L9, RecM.tame w9 w9.heap.size m from by rw [← hL9]; exact upR_tame HYG.out (Nat.le_refl _))
      have HN9 := hide_ (show L9.length ≤ 19 from by rw [← hL9]; exact upR_len y 16)
      have HPP := hide_ (show L9.map RecM.p = upP s.p 16 from by rw [← hL9]; exact HUP.out)
      rw [hL9] at HSE ⊢
      clear hL9 HUP
      obtain ⟨n9, hn9⟩ : ∃ n, L9.length = n := ⟨_, rfl⟩
      have HNE := hide_ hn9
      rw [hn9] at HN9 ⊢
      clear hn9
      have HMY := hide_ (show ∀ m ∈ L9, mayR m.p = true from fun m hm => upP_may HIV.out (Nat.le_refl _) m.p (by rw [← HPP.out]; exact List.mem_map_of_mem hm))
      have HRI := hide_ (show ∀ (i : Nat) (a c : RecM), L9[i]? = some a → L9[i + 1]? = some c → a.ki = 1 → c.ki = 1 → a.ke < c.ke from fun i a c h1 h2 => upP_next s.p (p := a.p) (q := c.p) (by rw [← HPP.out, List.getElem?_map, h1]; rfl) (by rw [← HPP.out, List.getElem?_map, h2]; rfl))
      go_loopw [7] (fun i wr => ∃ j : Nat, j ≤ n9 ∧ i = .int .i64 j ∧ Hid (Below w9.heap.size w9 wr)) (fun i _ => n9 - (intOf i).toNat)
      case atStart => exact ⟨0, Nat.zero_le _, rfl, hide_ (Below.refl _ _)⟩
      case round =>
        obtain ⟨j, hj, rfl, HBJ⟩ := hrel
        by_cases hjl : j < n9
        case neg =>
          have hjn : n9 = j := by omega
          subst hjn
          have HF2 := hide_ (fun (u : World) (h : Below w9.heap.size w9 u) => refFolds_any A9 c9 L9 n9 w9.heap.size u HNE.out (by have := HN9.out; omega) (HSE.out.below h) (fun m hm => (HTM.out m hm).below h) h.size)
          have HG2 := hide_ (fun (u : World) (h : Below w9.heap.size w9 u) => foldsM_good L9 h.size (fun m hm => (HTM.out m hm).below h))
          have HP2 := hide_ (show (foldsM L9).p = want.p from by rw [foldsM_p, HPP.out, fold_all HIV.out, HWS.out])
          obtain ⟨f2, hf2⟩ : ∃ s, foldsM L9 = s := ⟨_, rfl⟩
          simp only [hf2] at HF2 HG2 HP2
          clear hf2
          have HSG := hide_ (fun (u : World) (h : Below w9.heap.size w9 u) => (HSA.out.step (HL9.out.trans (h.mono HL9.out.size))).good)
          have HWG2 := hide_ (fun (u : World) (h : Below w9.heap.size w9 u) => HWG.out u (HB9.out.trans (h.mono HB9.out.size)))
          have HS1 := hide_ (fun (u : World) (h : Below w9.heap.size w9 u) => show Calls Tryz.prog 24 #[VS, VX] u fun e w' => e = .returned (.bool true) ∧ Below u.heap.size u w' from by have g := refSameState_any s want u.heap.size u (HSG.out u h) (HWG2.out u h) (Nat.le_refl _); rw [HWS.out, sameSt_refl] at g; rw [← HVS.out, ← HVX.out]; exact g)
          have HS2 := hide_ (fun (u : World) (h : Below w9.heap.size w9 u) => show Calls Tryz.prog 24 #[f2.v, VX] u fun e w' => e = .returned (.bool true) ∧ Below u.heap.size u w' from by have g := refSameState_any f2 want u.heap.size u (HG2.out u h) (HWG2.out u h) (Nat.le_refl _); rw [HP2.out, sameSt_refl] at g; rw [← HVX.out]; exact g)
          have HS3 := hide_ (fun (u : World) (h : Below w9.heap.size w9 u) => show Calls Tryz.prog 25 #[VS, VX] u fun e w' => e = .returned (.bool true) ∧ Below u.heap.size u w' from by have g := sameState_any s want u.heap.size u (HSG.out u h) (HWG2.out u h) (Nat.le_refl _); rw [HWS.out, sameSt_refl] at g; rw [← HVS.out, ← HVX.out]; exact g)
          obtain ⟨VF, hVF⟩ : ∃ V, f2.v = V := ⟨_, rfl⟩
          simp only [hVF] at HF2 HS2
          clear hVF
          have HSS := hide_ (fun (u : World) (h : Below w9.heap.size w9 u) => (⟨HY9.out.below h, HQ9.out.below h⟩ : BoxAt u g5 s.box 68 ∧ BoxAt u g7 want.box 68))
          have HUW := hide_ HBJ.out
          go_upto_region 15 with fail
          have HU0 := hide_ (HUW.out.trans ((show Below wr.heap.size wr wr.drew from (Below.refl _ _).drew).mono HUW.out.size))
          refine wp_region_held_drew (S := fun u => BoxAt u g5 s.box 68 ∧ BoxAt u g7 want.box 68) (by kernel_rfl) (HSS.out _ HU0.out) (fun hHeld => ?_)
          refine wpAnyH_take (i := 0) (oi := ⟨some 75, _, _, _, _, _⟩) (v := VS) rfl (by kernel_rfl) (by kernel_rfl) (by kernel_rfl) (fun _ _ _ h => h) (yl_whole 68 (by rfl) _ (by rfl) sta_size sta_row HSV.out (fun _ h => h.1) HSZ.out (by rfl)) (by assumption) ?_
          simp only [Act.put, sTI, sT0, sT1]
          refine wpAnyH_take (i := 1) (oi := ⟨some 76, _, _, _, _, _⟩) (v := VX) rfl (by kernel_rfl) (by kernel_rfl) (by kernel_rfl) (fun _ _ _ h => h) (yl_whole 68 (by rfl) _ (by rfl) sta_size sta_row HXV.out (fun _ h => h.2) HXZ.out (by rfl)) (by assumption) ?_
          simp only [Act.put, sTI, sT0, sT1]
          refine wpAnyH_ready (rs := [2]) (by kernel_rfl) (by simp) ?_
          refine AllReadyH.cons rfl (fun K hK => ?_) AllReadyH.nil
          go_simp
          go_wp2_with fail
          refine (HS1.out _ HU0.out).mono ?_
          rintro en u1 ⟨rfl, hbu⟩
          have HU1 := hide_ (HU0.out.trans (hbu.mono HU0.out.size))
          clear hbu
          refine hK.out _ _ (HSS.out _ HU1.out) (fun hHeld => ?_)
          clear hK K
          refine tkY 3 78 (.bool true) rfl ?hy1 (by assumption) ?rest1
          case hy1 => intro w hSw; clear hSw; go_simp <;> with_reducible rfl
          simp only [Act.put, sTI, sT0, sT1]
          refine tkY 4 79 ?v2 rfl ?hy2 (by assumption) ?rest2
          case hy2 => intro w hSw; clear hSw; go_simp <;> with_reducible rfl
          simp only [Act.put, sTI, sT0, sT1]
          refine wpAnyH_take (i := 6) (oi := ⟨some 81, _, _, _, _, _⟩) (v := VX) rfl (by kernel_rfl) (by kernel_rfl) (by kernel_rfl) (fun _ _ _ h => h) (yl_whole 68 (by rfl) _ (by rfl) sta_size sta_row HXV.out (fun _ h => h.2) HXZ.out (by rfl)) (by assumption) ?_
          simp only [Act.put, sTI, sT0, sT1]
          refine wpAnyH_ready (rs := [5]) (by kernel_rfl) (by simp) ?_
          refine AllReadyH.cons rfl (fun K hK => ?_) AllReadyH.nil
          go_simp
          go_wp2_with fail
          refine (HF2.out _ HU1.out).mono ?_
          rintro en u2 ⟨rfl, hbu⟩
          have HU2 := hide_ (HU1.out.trans (hbu.mono HU1.out.size))
          clear hbu
          refine hK.out _ _ (HSS.out _ HU2.out) (fun hHeld => ?_)
          clear hK K
          refine wpAnyH_ready (rs := [7]) (by kernel_rfl) (by simp) ?_
          refine AllReadyH.cons rfl (fun K hK => ?_) AllReadyH.nil
          go_simp
          go_wp2_with fail
          refine (HS2.out _ HU2.out).mono ?_
          rintro en u3 ⟨rfl, hbu⟩
          have HU3 := hide_ (HU2.out.trans (hbu.mono HU2.out.size))
          clear hbu
          refine hK.out _ _ (HSS.out _ HU3.out) (fun hHeld => ?_)
          clear hK K
          refine tkY 8 83 (.bool true) rfl ?hy3 (by assumption) ?rest3
          case hy3 => intro w hSw; clear hSw; go_simp <;> with_reducible rfl
          simp only [Act.put, sTI, sT0, sT1]
          refine tkY 9 84 (.bool true) rfl ?hy4 (by assumption) ?rest4
          case hy4 => intro w hSw; clear hSw; go_simp <;> with_reducible rfl
          simp only [Act.put, sTI, sT0, sT1]
          refine wpAnyH_take (i := 10) (oi := ⟨some 85, _, _, _, _, _⟩) (v := VS) rfl (by kernel_rfl) (by kernel_rfl) (by kernel_rfl) (fun _ _ _ h => h) (yl_whole 68 (by rfl) _ (by rfl) sta_size sta_row HSV.out (fun _ h => h.1) HSZ.out (by rfl)) (by assumption) ?_
          simp only [Act.put, sTI, sT0, sT1]
          refine wpAnyH_take (i := 11) (oi := ⟨some 86, _, _, _, _, _⟩) (v := VX) rfl (by kernel_rfl) (by kernel_rfl) (by kernel_rfl) (fun _ _ _ h => h) (yl_whole 68 (by rfl) _ (by rfl) sta_size sta_row HXV.out (fun _ h => h.2) HXZ.out (by rfl)) (by assumption) ?_
          simp only [Act.put, sTI, sT0, sT1]
          refine wpAnyH_ready (rs := [12]) (by kernel_rfl) (by simp) ?_
          refine AllReadyH.cons rfl (fun K hK => ?_) AllReadyH.nil
          go_simp
          go_wp2_with fail
          refine (HS3.out _ HU3.out).mono ?_
          rintro en u4 ⟨rfl, hbu⟩
          have HU4 := hide_ (HU3.out.trans (hbu.mono HU3.out.size))
          clear hbu
          refine hK.out _ _ (HSS.out _ HU4.out) (fun hHeld => ?_)
          clear hK K
          refine tkY 13 88 (.bool true) rfl ?hy5 (by assumption) ?rest5
          case hy5 => intro w hSw; clear hSw; go_simp <;> with_reducible rfl
          simp only [Act.put, sTI, sT0, sT1]
          refine tkY 14 89 (.bool true) rfl ?hy6 (by assumption) ?rest6
          case hy6 => intro w hSw; clear hSw; go_simp <;> with_reducible rfl
          simp only [Act.put, sTI, sT0, sT1]
          refine wpAnyH_ready (rs := [15]) (by kernel_rfl) (by simp) ?_
          refine AllReadyH.cons rfl (fun K hK => ?_) AllReadyH.nil
          go_simp
          go_wp2_with fail
          refine (awake14_any _).mono ?_
          rintro en u5 ⟨rfl, hbu⟩
          have HU5 := hide_ (HU4.out.trans (hbu.mono HU4.out.size))
          clear hbu
          refine hK.out _ _ (HSS.out _ HU5.out) (fun hHeld => ?_)
          clear hK K
          refine tkY 16 91 (.bool true) rfl ?hy7 (by assumption) ?rest7
          case hy7 => intro w hSw; clear hSw; go_simp <;> with_reducible rfl
          simp only [Act.put, sTI, sT0, sT1]
          refine tkY 17 2 (.bool true) rfl ?hy8 (by assumption) ?rest8
          case hy8 => intro w hSw; clear hSw; go_simp <;> with_reducible rfl
          simp only [Act.put, sTI, sT0, sT1]
          refine wpAnyH_done (by kernel_rfl) ?_ _
          clear hHeld
          have HBE := hide_ (HB9.out.trans (HU5.out.mono HB9.out.size))
          go_wp2
          go_ret
          exact ⟨rfl, HBE.out⟩
        case pos =>
          obtain ⟨x, hx⟩ : ∃ x, L9[j]? = some x := ⟨_, List.getElem?_eq_getElem (by rw [HNE.out]; exact hjl)⟩
          obtain ⟨b, off, rfl, hb, hrg⟩ := HSE.out.rec14 hx
          have HRG := hide_ (fun (u : World) (h : Below w9.heap.size w9 u) => hrg u (fun q hq => h.cell hq))
          have HBL := hide_ (fun (u : World) (h : Below w9.heap.size w9 u) => Nat.lt_of_lt_of_le hb h.size)
          have HMC := hide_ (fun (u : World) (h : Below w9.heap.size w9 u) => show Calls Tryz.prog 19 #[x.v] u fun e w' => e = .returned (.bool true) ∧ Below u.heap.size u w' from by have g := refMayRec_any x u.heap.size u (((HTM.out x (List.mem_of_getElem? hx)).g.below h).more h.size) (Nat.le_refl _); rw [HMY.out x (List.mem_of_getElem? hx)] at g; exact g)
          have HXX := hide_ hx
          have HC0 := hide_ (fun (u : World) (h : Below w9.heap.size w9 u) => show u.cell? ⟨b, off + j * 21, none⟩ = some (.int .u8 x.ki) from HRG.out u h 0 _ rfl)
          have HC1 := hide_ (fun (u : World) (h : Below w9.heap.size w9 u) => show u.cell? ⟨b, off + j * 21 + 1, none⟩ = some (.int .u8 x.ke) from HRG.out u h 1 _ rfl)
          have HVV := hide_ (show x.v = .agg x.cs.toArray from rfl)
          have HVL := hide_ x.cs_len
          obtain ⟨VM, hVM⟩ : ∃ V, x.v = V := ⟨_, rfl⟩
          simp only [hVM] at HMC
          rw [hVM] at HVV
          clear hVM hx hb hrg
          obtain ⟨ki, hki⟩ : ∃ n, x.ki = n := ⟨_, rfl⟩
          obtain ⟨ke, hke⟩ : ∃ n, x.ke = n := ⟨_, rfl⟩
          simp only [hki] at HC0
          simp only [hke] at HC1
          have HKI := hide_ hki
          have HKE := hide_ hke
          clear hki hke
          have hn19 := HN9.out
          have hk21 : (j : Int) * 21 = ((j * 21 : Nat) : Int) := by omega
          have hlt2 : ((j : Int) < (n9 : Int)) := by omega
          have HD := hide_ (show Below w9.heap.size w9 wr.drew from HBJ.out.trans ((show Below wr.heap.size wr wr.drew from (Below.refl _ _).drew).mono HBJ.out.size))
          by_cases hj0 : j = 0
          · have hn0 : ¬ (0 : Int) < (j : Int) := by omega
            have hn0N : ¬ 0 < j := by omega
            clear hj0
            have HSS := hide_ (fun (u : World) (h : Below w9.heap.size w9 u) => (⟨HRG.out _ h, ⟨HC0.out _ h, HC1.out _ h⟩, HBL.out _ h⟩ : u.rangeAt b (off + j * 21) x.cs ∧ (u.cell? ⟨b, off + j * 21, none⟩ = some (.int .u8 ki) ∧ u.cell? ⟨b, off + j * 21 + 1, none⟩ = some (.int .u8 ke)) ∧ b < u.heap.size))
            go_upto_region 13 with fail
            refine wp_region_held_drew (S := fun u => u.rangeAt b (off + j * 21) x.cs ∧ (u.cell? ⟨b, off + j * 21, none⟩ = some (.int .u8 ki) ∧ u.cell? ⟨b, off + j * 21 + 1, none⟩ = some (.int .u8 ke)) ∧ b < u.heap.size) (by kernel_rfl) (HSS.out _ HD.out) (fun hHeld => ?_)
            refine tkY 0 34 ?v9 rfl ?hy9 (by assumption) ?rest9
            case hy9 => intro w hSw; clear hSw; go_simp <;> with_reducible rfl
            simp only [Act.put, sTI, sT0, sT1]
            refine tkY 1 35 ?v10 rfl ?hy10 (by assumption) ?rest10
            case hy10 => intro w hSw; clear hSw; go_simp <;> with_reducible rfl
            simp only [Act.put, sTI, sT0, sT1]
            refine tkY 2 36 ?v11 rfl ?hy11 (by assumption) ?rest11
            case hy11 => intro w hSw; clear hSw; go_simp <;> with_reducible rfl
            simp only [Act.put, sTI, sT0, sT1]
            refine wpAnyH_take (i := 3) (oi := ⟨some 37, _, _, _, _, _⟩) (v := VM) rfl (by kernel_rfl) (by kernel_rfl) (by kernel_rfl) (fun _ _ _ h => h) (yl_range 54 (by rfl) _ (by rfl) rec_size rec_row HVV.out (fun _ h => h.1) HVL.out (by rfl)) (by assumption) ?_
            simp only [Act.put, sTI, sT0, sT1]
            refine wpAnyH_ready (rs := [4]) (by kernel_rfl) (by simp) ?_
            refine AllReadyH.cons rfl (fun K hK => ?_) AllReadyH.nil
            go_simp
            go_wp2_with fail
            refine (HMC.out _ HD.out).mono ?_
            rintro en u1 ⟨rfl, hbu⟩
            have HU1 := hide_ (HD.out.trans (hbu.mono HD.out.size))
            clear hbu
            refine hK.out _ _ (HSS.out _ HU1.out) (fun hHeld => ?_)
            clear hK K
            refine tkY 5 39 (.bool false) rfl ?hy12 (by assumption) ?rest12
            case hy12 => intro w hSw; clear hSw; go_simp <;> (first | with_reducible rfl | (simp; try omega))
            simp only [Act.put, sTI, sT0, sT1]
            refine tkY 6 40 (.bool false) rfl ?hy13 (by assumption) ?rest13
            case hy13 => intro w hSw; clear hSw; go_simp <;> (first | with_reducible rfl | (simp; try omega))
            simp only [Act.put, sTI, sT0, sT1]
            refine tkY 7 41 ?v14 rfl ?hy14 (by assumption) ?rest14
            case hy14 => intro w hSw; clear hSw; go_simp <;> with_reducible rfl
            simp only [Act.put, sTI, sT0, sT1]
            refine tkY 8 42 (.bool false) rfl ?hy15 (by assumption) ?rest15
            case hy15 => intro w hSw; clear hSw; go_simp <;> (first | with_reducible rfl | (simp; try omega))
            simp only [Act.put, sTI, sT0, sT1]
            refine tkY 9 43 (.bool false) rfl ?hy16 (by assumption) ?rest16
            case hy16 => intro w hSw; clear hSw; go_simp <;> (first | with_reducible rfl | (simp; try omega))
            simp only [Act.put, sTI, sT0, sT1]
            refine tkU 10 44 rfl (by assumption) ?_
            simp only [Act.put, sTI, sT0, sT1]
            refine tkU 11 45 rfl (by assumption) ?_
            simp only [Act.put, sTI, sT0, sT1]
            refine tkU 12 46 rfl (by assumption) ?_
            simp only [Act.put, sTI, sT0, sT1]
            refine tkU 13 47 rfl (by assumption) ?_
            simp only [Act.put, sTI, sT0, sT1]
            refine tkU 14 48 rfl (by assumption) ?_
            simp only [Act.put, sTI, sT0, sT1]
            refine tkU 15 49 rfl (by assumption) ?_
            simp only [Act.put, sTI, sT0, sT1]
            refine tkY 16 50 (.bool false) rfl ?hy17 (by assumption) ?rest17
            case hy17 => intro w hSw; clear hSw; go_simp <;> (first | with_reducible rfl | (simp; try omega))
            simp only [Act.put, sTI, sT0, sT1]
            refine tkY 17 51 (.bool false) rfl ?hy18 (by assumption) ?rest18
            case hy18 => intro w hSw; clear hSw; go_simp <;> (first | with_reducible rfl | (simp; try omega))
            simp only [Act.put, sTI, sT0, sT1]
            refine tkU 18 52 rfl (by assumption) ?_
            simp only [Act.put, sTI, sT0, sT1]
            refine tkU 19 53 rfl (by assumption) ?_
            simp only [Act.put, sTI, sT0, sT1]
            refine tkU 20 54 rfl (by assumption) ?_
            simp only [Act.put, sTI, sT0, sT1]
            refine tkU 21 55 rfl (by assumption) ?_
            simp only [Act.put, sTI, sT0, sT1]
            refine tkU 22 56 rfl (by assumption) ?_
            simp only [Act.put, sTI, sT0, sT1]
            refine tkU 23 57 rfl (by assumption) ?_
            simp only [Act.put, sTI, sT0, sT1]
            refine tkU 24 58 rfl (by assumption) ?_
            simp only [Act.put, sTI, sT0, sT1]
            refine tkY 25 59 (.bool false) rfl ?hy19 (by assumption) ?rest19
            case hy19 => intro w hSw; clear hSw; go_simp <;> (first | with_reducible rfl | (simp; try omega))
            simp only [Act.put, sTI, sT0, sT1]
            refine tkY 26 60 (.bool false) rfl ?hy20 (by assumption) ?rest20
            case hy20 => intro w hSw; clear hSw; go_simp <;> (first | with_reducible rfl | (simp; try omega))
            simp only [Act.put, sTI, sT0, sT1]
            refine tkU 27 61 rfl (by assumption) ?_
            simp only [Act.put, sTI, sT0, sT1]
            refine tkU 28 62 rfl (by assumption) ?_
            simp only [Act.put, sTI, sT0, sT1]
            refine tkU 29 63 rfl (by assumption) ?_
            simp only [Act.put, sTI, sT0, sT1]
            refine tkU 30 64 rfl (by assumption) ?_
            simp only [Act.put, sTI, sT0, sT1]
            refine tkU 31 65 rfl (by assumption) ?_
            simp only [Act.put, sTI, sT0, sT1]
            refine tkU 32 66 rfl (by assumption) ?_
            simp only [Act.put, sTI, sT0, sT1]
            refine tkU 33 67 rfl (by assumption) ?_
            simp only [Act.put, sTI, sT0, sT1]
            refine tkU 34 68 rfl (by assumption) ?_
            simp only [Act.put, sTI, sT0, sT1]
            refine tkU 35 69 rfl (by assumption) ?_
            simp only [Act.put, sTI, sT0, sT1]
            refine tkU 36 70 rfl (by assumption) ?_
            simp only [Act.put, sTI, sT0, sT1]
            refine tkU 37 71 rfl (by assumption) ?_
            simp only [Act.put, sTI, sT0, sT1]
            refine tkU 38 72 rfl (by assumption) ?_
            simp only [Act.put, sTI, sT0, sT1]
            refine tkY 39 73 (.bool false) rfl ?hy21 (by assumption) ?rest21
            case hy21 => intro w hSw; clear hSw; go_simp <;> (first | with_reducible rfl | (simp; try omega))
            simp only [Act.put, sTI, sT0, sT1]
            refine tkY 40 74 (.bool false) rfl ?hy22 (by assumption) ?rest22
            case hy22 => intro w hSw; clear hSw; go_simp <;> (first | with_reducible rfl | (simp; try omega))
            simp only [Act.put, sTI, sT0, sT1]
            refine wpAnyH_done (by kernel_rfl) ?_ _
            clear hHeld
            go_wp2
            go_roundw
            case rel => exact ⟨j + 1, by omega, by go_num, HU1⟩
            case measure => simp [intOf]; omega
          obtain ⟨jm, hjm⟩ : ∃ m, m + 1 = j := ⟨j - 1, by omega⟩
          obtain ⟨x0, hx0⟩ : ∃ x, L9[jm]? = some x := ⟨_, List.getElem?_eq_getElem (by rw [HNE.out]; omega)⟩
          obtain ⟨b2, o2, e2, _, hrg2⟩ := HSE.out.rec14 hx0
          obtain ⟨hb2, ho2⟩ : b = b2 ∧ off = o2 := by injection e2 with e2; injection e2 with h1 h2; exact ⟨h1, h2⟩
          have HRP := hide_ (fun (u : World) (h : Below w9.heap.size w9 u) => show u.rangeAt b (off + jm * 21) x0.cs from by rw [hb2, ho2]; exact hrg2 u (fun q hq => h.cell hq))
          have HD0 := hide_ (fun (u : World) (h : Below w9.heap.size w9 u) => show u.cell? ⟨b, off + jm * 21, none⟩ = some (.int .u8 x0.ki) from HRP.out u h 0 _ rfl)
          have HD1 := hide_ (fun (u : World) (h : Below w9.heap.size w9 u) => show u.cell? ⟨b, off + jm * 21 + 1, none⟩ = some (.int .u8 x0.ke) from HRP.out u h 1 _ rfl)
          have HRK := hide_ (show x0.ki = 1 → ki = 1 → x0.ke < ke from fun h1 h2 => by have g := HRI.out jm x0 x hx0 (by rw [hjm]; exact HXX.out) h1 (HKI.out.trans h2); rw [HKE.out] at g; exact g)
          obtain ⟨kj, hkj⟩ : ∃ n, x0.ki = n := ⟨_, rfl⟩
          obtain ⟨kf, hkf⟩ : ∃ n, x0.ke = n := ⟨_, rfl⟩
          simp only [hkj] at HD0 HRK
          simp only [hkf] at HD1 HRK
          have hsub : (j : Int) - 1 = (jm : Int) := by omega
          have hm21 : (jm : Int) * 21 = ((jm * 21 : Nat) : Int) := by omega
          have hltm : ((jm : Int) < (n9 : Int)) := by omega
          have hpos : (0 : Int) < (j : Int) := by omega
          have hposN : 0 < j := by omega
          have hwr : IntKind.i64.wrap (jm : Int) = (jm : Int) := (show ∀ m : Nat, m < 20 → IntKind.i64.wrap (m : Int) = (m : Int) from by decide +kernel) jm (by have := HN9.out; omega)
          clear hkj hkf hx0 hrg2 e2 HRP hb2 ho2 hj0 hjm
          by_cases h1 : ki = 1
          case neg =>
            have n1x : ¬ (ki : Int) = 1 := by omega
            have HSS := hide_ (fun (u : World) (h : Below w9.heap.size w9 u) => (⟨HRG.out _ h, ⟨HC0.out _ h, HC1.out _ h⟩, HBL.out _ h, HD0.out _ h, HD1.out _ h⟩ : u.rangeAt b (off + j * 21) x.cs ∧ (u.cell? ⟨b, off + j * 21, none⟩ = some (.int .u8 ki) ∧ u.cell? ⟨b, off + j * 21 + 1, none⟩ = some (.int .u8 ke)) ∧ b < u.heap.size ∧ u.cell? ⟨b, off + jm * 21, none⟩ = some (.int .u8 kj) ∧ u.cell? ⟨b, off + jm * 21 + 1, none⟩ = some (.int .u8 kf)))
            go_upto_region 13 with fail
            refine wp_region_held_drew (S := fun u => u.rangeAt b (off + j * 21) x.cs ∧ (u.cell? ⟨b, off + j * 21, none⟩ = some (.int .u8 ki) ∧ u.cell? ⟨b, off + j * 21 + 1, none⟩ = some (.int .u8 ke)) ∧ b < u.heap.size ∧ u.cell? ⟨b, off + jm * 21, none⟩ = some (.int .u8 kj) ∧ u.cell? ⟨b, off + jm * 21 + 1, none⟩ = some (.int .u8 kf)) (by kernel_rfl) (HSS.out _ HD.out) (fun hHeld => ?_)
            refine tkY 0 34 ?v23 rfl ?hy23 (by assumption) ?rest23
            case hy23 => intro w hSw; clear hSw; go_simp <;> with_reducible rfl
            simp only [Act.put, sTI, sT0, sT1]
            refine tkY 1 35 ?v24 rfl ?hy24 (by assumption) ?rest24
            case hy24 => intro w hSw; clear hSw; go_simp <;> with_reducible rfl
            simp only [Act.put, sTI, sT0, sT1]
            refine tkY 2 36 ?v25 rfl ?hy25 (by assumption) ?rest25
            case hy25 => intro w hSw; clear hSw; go_simp <;> with_reducible rfl
            simp only [Act.put, sTI, sT0, sT1]
            refine wpAnyH_take (i := 3) (oi := ⟨some 37, _, _, _, _, _⟩) (v := VM) rfl (by kernel_rfl) (by kernel_rfl) (by kernel_rfl) (fun _ _ _ h => h) (yl_range 54 (by rfl) _ (by rfl) rec_size rec_row HVV.out (fun _ h => h.1) HVL.out (by rfl)) (by assumption) ?_
            simp only [Act.put, sTI, sT0, sT1]
            refine wpAnyH_ready (rs := [4]) (by kernel_rfl) (by simp) ?_
            refine AllReadyH.cons rfl (fun K hK => ?_) AllReadyH.nil
            go_simp
            go_wp2_with fail
            refine (HMC.out _ HD.out).mono ?_
            rintro en u1 ⟨rfl, hbu⟩
            have HU1 := hide_ (HD.out.trans (hbu.mono HD.out.size))
            clear hbu
            refine hK.out _ _ (HSS.out _ HU1.out) (fun hHeld => ?_)
            clear hK K
            refine tkY 5 39 (.bool false) rfl ?hy26 (by assumption) ?rest26
            case hy26 => intro w hSw; clear hSw; go_simp <;> (first | with_reducible rfl | (simp; try omega))
            simp only [Act.put, sTI, sT0, sT1]
            refine tkY 6 40 (.bool false) rfl ?hy27 (by assumption) ?rest27
            case hy27 => intro w hSw; clear hSw; go_simp <;> (first | with_reducible rfl | (simp; try omega))
            simp only [Act.put, sTI, sT0, sT1]
            refine tkY 7 41 ?v28 rfl ?hy28 (by assumption) ?rest28
            case hy28 => intro w hSw; clear hSw; go_simp <;> with_reducible rfl
            simp only [Act.put, sTI, sT0, sT1]
            refine tkY 8 42 (.bool true) rfl ?hy29 (by assumption) ?rest29
            case hy29 => intro w hSw; clear hSw; go_simp <;> (first | with_reducible rfl | (simp; try omega))
            simp only [Act.put, sTI, sT0, sT1]
            refine tkY 9 43 (.bool true) rfl ?hy30 (by assumption) ?rest30
            case hy30 => intro w hSw; clear hSw; go_simp <;> (first | with_reducible rfl | (simp; try omega))
            simp only [Act.put, sTI, sT0, sT1]
            refine tkY 10 44 ?v31 rfl ?hy31 (by assumption) ?rest31
            case hy31 => intro w hSw; clear hSw; go_simp <;> with_reducible rfl
            simp only [Act.put, sTI, sT0, sT1]
            refine tkY 11 45 ?v32 rfl ?hy32 (by assumption) ?rest32
            case hy32 => intro w hSw; clear hSw; go_simp <;> with_reducible rfl
            simp only [Act.put, sTI, sT0, sT1]
            refine tkY 12 46 ?v33 rfl ?hy33 (by assumption) ?rest33
            case hy33 => intro w hSw; clear hSw; go_simp <;> with_reducible rfl
            simp only [Act.put, sTI, sT0, sT1]
            refine tkY 13 47 ?v34 rfl ?hy34 (by assumption) ?rest34
            case hy34 => intro w hSw; clear hSw; go_simp <;> with_reducible rfl
            simp only [Act.put, sTI, sT0, sT1]
            refine tkY 14 48 ?v35 rfl ?hy35 (by assumption) ?rest35
            case hy35 => intro w hSw; have c0 := hSw.2.1.1; have c9 := hSw.2.2.1; clear hSw; go_simp <;> with_reducible rfl
            simp only [Act.put, sTI, sT0, sT1]
            refine tkY 15 49 (.bool false) rfl ?hy36 (by assumption) ?rest36
            case hy36 => intro w hSw; clear hSw; go_simp <;> (first | with_reducible rfl | (simp; try omega))
            simp only [Act.put, sTI, sT0, sT1]
            refine tkY 16 50 (.bool false) rfl ?hy37 (by assumption) ?rest37
            case hy37 => intro w hSw; clear hSw; go_simp <;> (first | with_reducible rfl | (simp; try omega))
            simp only [Act.put, sTI, sT0, sT1]
            refine tkY 17 51 (.bool false) rfl ?hy38 (by assumption) ?rest38
            case hy38 => intro w hSw; clear hSw; go_simp <;> (first | with_reducible rfl | (simp; try omega))
            simp only [Act.put, sTI, sT0, sT1]
            refine tkU 18 52 rfl (by assumption) ?_
            simp only [Act.put, sTI, sT0, sT1]
            refine tkU 19 53 rfl (by assumption) ?_
            simp only [Act.put, sTI, sT0, sT1]
            refine tkU 20 54 rfl (by assumption) ?_
            simp only [Act.put, sTI, sT0, sT1]
            refine tkU 21 55 rfl (by assumption) ?_
            simp only [Act.put, sTI, sT0, sT1]
            refine tkU 22 56 rfl (by assumption) ?_
            simp only [Act.put, sTI, sT0, sT1]
            refine tkU 23 57 rfl (by assumption) ?_
            simp only [Act.put, sTI, sT0, sT1]
            refine tkU 24 58 rfl (by assumption) ?_
            simp only [Act.put, sTI, sT0, sT1]
            refine tkY 25 59 (.bool false) rfl ?hy39 (by assumption) ?rest39
            case hy39 => intro w hSw; clear hSw; go_simp <;> (first | with_reducible rfl | (simp; try omega))
            simp only [Act.put, sTI, sT0, sT1]
            refine tkY 26 60 (.bool false) rfl ?hy40 (by assumption) ?rest40
            case hy40 => intro w hSw; clear hSw; go_simp <;> (first | with_reducible rfl | (simp; try omega))
            simp only [Act.put, sTI, sT0, sT1]
            refine tkU 27 61 rfl (by assumption) ?_
            simp only [Act.put, sTI, sT0, sT1]
            refine tkU 28 62 rfl (by assumption) ?_
            simp only [Act.put, sTI, sT0, sT1]
            refine tkU 29 63 rfl (by assumption) ?_
            simp only [Act.put, sTI, sT0, sT1]
            refine tkU 30 64 rfl (by assumption) ?_
            simp only [Act.put, sTI, sT0, sT1]
            refine tkU 31 65 rfl (by assumption) ?_
            simp only [Act.put, sTI, sT0, sT1]
            refine tkU 32 66 rfl (by assumption) ?_
            simp only [Act.put, sTI, sT0, sT1]
            refine tkU 33 67 rfl (by assumption) ?_
            simp only [Act.put, sTI, sT0, sT1]
            refine tkU 34 68 rfl (by assumption) ?_
            simp only [Act.put, sTI, sT0, sT1]
            refine tkU 35 69 rfl (by assumption) ?_
            simp only [Act.put, sTI, sT0, sT1]
            refine tkU 36 70 rfl (by assumption) ?_
            simp only [Act.put, sTI, sT0, sT1]
            refine tkU 37 71 rfl (by assumption) ?_
            simp only [Act.put, sTI, sT0, sT1]
            refine tkU 38 72 rfl (by assumption) ?_
            simp only [Act.put, sTI, sT0, sT1]
            refine tkY 39 73 (.bool false) rfl ?hy41 (by assumption) ?rest41
            case hy41 => intro w hSw; clear hSw; go_simp <;> (first | with_reducible rfl | (simp; try omega))
            simp only [Act.put, sTI, sT0, sT1]
            refine tkY 40 74 (.bool false) rfl ?hy42 (by assumption) ?rest42
            case hy42 => intro w hSw; clear hSw; go_simp <;> (first | with_reducible rfl | (simp; try omega))
            simp only [Act.put, sTI, sT0, sT1]
            refine wpAnyH_done (by kernel_rfl) ?_ _
            clear hHeld
            go_wp2
            go_roundw
            case rel => exact ⟨j + 1, by omega, by go_num, HU1⟩
            case measure => simp [intOf]; omega
          case pos =>
            have HE1 := hide_ (show (ki : Int) = 1 from by omega)
            by_cases h2 : kj = 1
            case neg =>
              have n2 : ¬ (kj : Int) = 1 := by omega
              clear h1
              have HSS := hide_ (fun (u : World) (h : Below w9.heap.size w9 u) => (⟨HRG.out _ h, ⟨HC0.out _ h, HC1.out _ h⟩, HBL.out _ h, HD0.out _ h, HD1.out _ h⟩ : u.rangeAt b (off + j * 21) x.cs ∧ (u.cell? ⟨b, off + j * 21, none⟩ = some (.int .u8 ki) ∧ u.cell? ⟨b, off + j * 21 + 1, none⟩ = some (.int .u8 ke)) ∧ b < u.heap.size ∧ u.cell? ⟨b, off + jm * 21, none⟩ = some (.int .u8 kj) ∧ u.cell? ⟨b, off + jm * 21 + 1, none⟩ = some (.int .u8 kf)))
              go_upto_region 13 with fail
              refine wp_region_held_drew (S := fun u => u.rangeAt b (off + j * 21) x.cs ∧ (u.cell? ⟨b, off + j * 21, none⟩ = some (.int .u8 ki) ∧ u.cell? ⟨b, off + j * 21 + 1, none⟩ = some (.int .u8 ke)) ∧ b < u.heap.size ∧ u.cell? ⟨b, off + jm * 21, none⟩ = some (.int .u8 kj) ∧ u.cell? ⟨b, off + jm * 21 + 1, none⟩ = some (.int .u8 kf)) (by kernel_rfl) (HSS.out _ HD.out) (fun hHeld => ?_)
              refine tkY 0 34 ?v43 rfl ?hy43 (by assumption) ?rest43
              case hy43 => intro w hSw; clear hSw; go_simp <;> with_reducible rfl
              simp only [Act.put, sTI, sT0, sT1]
              refine tkY 1 35 ?v44 rfl ?hy44 (by assumption) ?rest44
              case hy44 => intro w hSw; clear hSw; go_simp <;> with_reducible rfl
              simp only [Act.put, sTI, sT0, sT1]
              refine tkY 2 36 ?v45 rfl ?hy45 (by assumption) ?rest45
              case hy45 => intro w hSw; clear hSw; go_simp <;> with_reducible rfl
              simp only [Act.put, sTI, sT0, sT1]
              refine wpAnyH_take (i := 3) (oi := ⟨some 37, _, _, _, _, _⟩) (v := VM) rfl (by kernel_rfl) (by kernel_rfl) (by kernel_rfl) (fun _ _ _ h => h) (yl_range 54 (by rfl) _ (by rfl) rec_size rec_row HVV.out (fun _ h => h.1) HVL.out (by rfl)) (by assumption) ?_
              simp only [Act.put, sTI, sT0, sT1]
              refine wpAnyH_ready (rs := [4]) (by kernel_rfl) (by simp) ?_
              refine AllReadyH.cons rfl (fun K hK => ?_) AllReadyH.nil
              go_simp
              go_wp2_with fail
              refine (HMC.out _ HD.out).mono ?_
              rintro en u1 ⟨rfl, hbu⟩
              have HU1 := hide_ (HD.out.trans (hbu.mono HD.out.size))
              clear hbu
              refine hK.out _ _ (HSS.out _ HU1.out) (fun hHeld => ?_)
              clear hK K
              refine tkY 5 39 (.bool false) rfl ?hy46 (by assumption) ?rest46
              case hy46 => intro w hSw; clear hSw; go_simp <;> (first | with_reducible rfl | (simp; try omega))
              simp only [Act.put, sTI, sT0, sT1]
              refine tkY 6 40 (.bool false) rfl ?hy47 (by assumption) ?rest47
              case hy47 => intro w hSw; clear hSw; go_simp <;> (first | with_reducible rfl | (simp; try omega))
              simp only [Act.put, sTI, sT0, sT1]
              refine tkY 7 41 ?v48 rfl ?hy48 (by assumption) ?rest48
              case hy48 => intro w hSw; clear hSw; go_simp <;> with_reducible rfl
              simp only [Act.put, sTI, sT0, sT1]
              refine tkY 8 42 (.bool true) rfl ?hy49 (by assumption) ?rest49
              case hy49 => intro w hSw; clear hSw; go_simp <;> (first | with_reducible rfl | (simp; try omega))
              simp only [Act.put, sTI, sT0, sT1]
              refine tkY 9 43 (.bool true) rfl ?hy50 (by assumption) ?rest50
              case hy50 => intro w hSw; clear hSw; go_simp <;> (first | with_reducible rfl | (simp; try omega))
              simp only [Act.put, sTI, sT0, sT1]
              refine tkY 10 44 ?v51 rfl ?hy51 (by assumption) ?rest51
              case hy51 => intro w hSw; clear hSw; go_simp <;> with_reducible rfl
              simp only [Act.put, sTI, sT0, sT1]
              refine tkY 11 45 ?v52 rfl ?hy52 (by assumption) ?rest52
              case hy52 => intro w hSw; clear hSw; go_simp <;> with_reducible rfl
              simp only [Act.put, sTI, sT0, sT1]
              refine tkY 12 46 ?v53 rfl ?hy53 (by assumption) ?rest53
              case hy53 => intro w hSw; clear hSw; go_simp <;> with_reducible rfl
              simp only [Act.put, sTI, sT0, sT1]
              refine tkY 13 47 ?v54 rfl ?hy54 (by assumption) ?rest54
              case hy54 => intro w hSw; clear hSw; go_simp <;> with_reducible rfl
              simp only [Act.put, sTI, sT0, sT1]
              refine tkY 14 48 ?v55 rfl ?hy55 (by assumption) ?rest55
              case hy55 => intro w hSw; have c0 := hSw.2.1.1; have c9 := hSw.2.2.1; clear hSw; go_simp <;> with_reducible rfl
              simp only [Act.put, sTI, sT0, sT1]
              refine tkY 15 49 (.bool true) rfl ?hy56 (by assumption) ?rest56
              case hy56 => intro w hSw; have e1 := HE1.out; have e1N : ki = 1 := (by omega); clear hSw; go_simp <;> (first | with_reducible rfl | (simp; try omega))
              simp only [Act.put, sTI, sT0, sT1]
              refine tkY 16 50 (.bool true) rfl ?hy57 (by assumption) ?rest57
              case hy57 => intro w hSw; clear hSw; go_simp <;> (first | with_reducible rfl | (simp; try omega))
              simp only [Act.put, sTI, sT0, sT1]
              refine tkY 17 51 (.bool true) rfl ?hy58 (by assumption) ?rest58
              case hy58 => intro w hSw; clear hSw; go_simp <;> (first | with_reducible rfl | (simp; try omega))
              simp only [Act.put, sTI, sT0, sT1]
              refine tkY 18 52 ?v59 rfl ?hy59 (by assumption) ?rest59
              case hy59 => intro w hSw; clear hSw; go_simp <;> with_reducible rfl
              simp only [Act.put, sTI, sT0, sT1]
              refine tkY 19 53 ?v60 rfl ?hy60 (by assumption) ?rest60
              case hy60 => intro w hSw; clear hSw; go_simp <;> with_reducible rfl
              simp only [Act.put, sTI, sT0, sT1]
              refine tkY 20 54 ?v61 rfl ?hy61 (by assumption) ?rest61
              case hy61 => intro w hSw; clear hSw; go_simp <;> with_reducible rfl
              simp only [Act.put, sTI, sT0, sT1]
              refine tkY 21 55 ?v62 rfl ?hy62 (by assumption) ?rest62
              case hy62 => intro w hSw; clear hSw; go_simp <;> with_reducible rfl
              simp only [Act.put, sTI, sT0, sT1]
              refine tkY 22 56 ?v63 rfl ?hy63 (by assumption) ?rest63
              case hy63 => intro w hSw; clear hSw; go_simp <;> with_reducible rfl
              simp only [Act.put, sTI, sT0, sT1]
              refine tkY 23 57 ?v64 rfl ?hy64 (by assumption) ?rest64
              case hy64 => intro w hSw; have c0 := hSw.2.2.2.1; have c9 := hSw.2.2.1; clear hSw; go_simp <;> with_reducible rfl
              simp only [Act.put, sTI, sT0, sT1]
              refine tkY 24 58 (.bool false) rfl ?hy65 (by assumption) ?rest65
              case hy65 => intro w hSw; clear hSw; go_simp <;> (first | with_reducible rfl | (simp; try omega))
              simp only [Act.put, sTI, sT0, sT1]
              refine tkY 25 59 (.bool false) rfl ?hy66 (by assumption) ?rest66
              case hy66 => intro w hSw; clear hSw; go_simp <;> (first | with_reducible rfl | (simp; try omega))
              simp only [Act.put, sTI, sT0, sT1]
              refine tkY 26 60 (.bool false) rfl ?hy67 (by assumption) ?rest67
              case hy67 => intro w hSw; clear hSw; go_simp <;> (first | with_reducible rfl | (simp; try omega))
              simp only [Act.put, sTI, sT0, sT1]
              refine tkU 27 61 rfl (by assumption) ?_
              simp only [Act.put, sTI, sT0, sT1]
              refine tkU 28 62 rfl (by assumption) ?_
              simp only [Act.put, sTI, sT0, sT1]
              refine tkU 29 63 rfl (by assumption) ?_
              simp only [Act.put, sTI, sT0, sT1]
              refine tkU 30 64 rfl (by assumption) ?_
              simp only [Act.put, sTI, sT0, sT1]
              refine tkU 31 65 rfl (by assumption) ?_
              simp only [Act.put, sTI, sT0, sT1]
              refine tkU 32 66 rfl (by assumption) ?_
              simp only [Act.put, sTI, sT0, sT1]
              refine tkU 33 67 rfl (by assumption) ?_
              simp only [Act.put, sTI, sT0, sT1]
              refine tkU 34 68 rfl (by assumption) ?_
              simp only [Act.put, sTI, sT0, sT1]
              refine tkU 35 69 rfl (by assumption) ?_
              simp only [Act.put, sTI, sT0, sT1]
              refine tkU 36 70 rfl (by assumption) ?_
              simp only [Act.put, sTI, sT0, sT1]
              refine tkU 37 71 rfl (by assumption) ?_
              simp only [Act.put, sTI, sT0, sT1]
              refine tkU 38 72 rfl (by assumption) ?_
              simp only [Act.put, sTI, sT0, sT1]
              refine tkY 39 73 (.bool false) rfl ?hy68 (by assumption) ?rest68
              case hy68 => intro w hSw; clear hSw; go_simp <;> (first | with_reducible rfl | (simp; try omega))
              simp only [Act.put, sTI, sT0, sT1]
              refine tkY 40 74 (.bool false) rfl ?hy69 (by assumption) ?rest69
              case hy69 => intro w hSw; clear hSw; go_simp <;> (first | with_reducible rfl | (simp; try omega))
              simp only [Act.put, sTI, sT0, sT1]
              refine wpAnyH_done (by kernel_rfl) ?_ _
              clear hHeld
              go_wp2
              go_roundw
              case rel => exact ⟨j + 1, by omega, by go_num, HU1⟩
              case measure => simp [intOf]; omega
            case pos =>
              have HE2 := hide_ (show (kj : Int) = 1 from by omega)
              have hke := HRK.out h2 h1
              clear h1 h2
              have hke2 : ¬ ((ke : Int) ≤ (kf : Int)) := by omega
              have hke3 : ¬ ke ≤ kf := by omega
              have HSS := hide_ (fun (u : World) (h : Below w9.heap.size w9 u) => (⟨HRG.out _ h, ⟨HC0.out _ h, HC1.out _ h⟩, HBL.out _ h, HD0.out _ h, HD1.out _ h⟩ : u.rangeAt b (off + j * 21) x.cs ∧ (u.cell? ⟨b, off + j * 21, none⟩ = some (.int .u8 ki) ∧ u.cell? ⟨b, off + j * 21 + 1, none⟩ = some (.int .u8 ke)) ∧ b < u.heap.size ∧ u.cell? ⟨b, off + jm * 21, none⟩ = some (.int .u8 kj) ∧ u.cell? ⟨b, off + jm * 21 + 1, none⟩ = some (.int .u8 kf)))
              go_upto_region 13 with fail
              refine wp_region_held_drew (S := fun u => u.rangeAt b (off + j * 21) x.cs ∧ (u.cell? ⟨b, off + j * 21, none⟩ = some (.int .u8 ki) ∧ u.cell? ⟨b, off + j * 21 + 1, none⟩ = some (.int .u8 ke)) ∧ b < u.heap.size ∧ u.cell? ⟨b, off + jm * 21, none⟩ = some (.int .u8 kj) ∧ u.cell? ⟨b, off + jm * 21 + 1, none⟩ = some (.int .u8 kf)) (by kernel_rfl) (HSS.out _ HD.out) (fun hHeld => ?_)
              refine tkY 0 34 ?v70 rfl ?hy70 (by assumption) ?rest70
              case hy70 => intro w hSw; clear hSw; go_simp <;> with_reducible rfl
              simp only [Act.put, sTI, sT0, sT1]
              refine tkY 1 35 ?v71 rfl ?hy71 (by assumption) ?rest71
              case hy71 => intro w hSw; clear hSw; go_simp <;> with_reducible rfl
              simp only [Act.put, sTI, sT0, sT1]
              refine tkY 2 36 ?v72 rfl ?hy72 (by assumption) ?rest72
              case hy72 => intro w hSw; clear hSw; go_simp <;> with_reducible rfl
              simp only [Act.put, sTI, sT0, sT1]
              refine wpAnyH_take (i := 3) (oi := ⟨some 37, _, _, _, _, _⟩) (v := VM) rfl (by kernel_rfl) (by kernel_rfl) (by kernel_rfl) (fun _ _ _ h => h) (yl_range 54 (by rfl) _ (by rfl) rec_size rec_row HVV.out (fun _ h => h.1) HVL.out (by rfl)) (by assumption) ?_
              simp only [Act.put, sTI, sT0, sT1]
              refine wpAnyH_ready (rs := [4]) (by kernel_rfl) (by simp) ?_
              refine AllReadyH.cons rfl (fun K hK => ?_) AllReadyH.nil
              go_simp
              go_wp2_with fail
              refine (HMC.out _ HD.out).mono ?_
              rintro en u1 ⟨rfl, hbu⟩
              have HU1 := hide_ (HD.out.trans (hbu.mono HD.out.size))
              clear hbu
              refine hK.out _ _ (HSS.out _ HU1.out) (fun hHeld => ?_)
              clear hK K
              refine tkY 5 39 (.bool false) rfl ?hy73 (by assumption) ?rest73
              case hy73 => intro w hSw; clear hSw; go_simp <;> (first | with_reducible rfl | (simp; try omega))
              simp only [Act.put, sTI, sT0, sT1]
              refine tkY 6 40 (.bool false) rfl ?hy74 (by assumption) ?rest74
              case hy74 => intro w hSw; clear hSw; go_simp <;> (first | with_reducible rfl | (simp; try omega))
              simp only [Act.put, sTI, sT0, sT1]
              refine tkY 7 41 ?v75 rfl ?hy75 (by assumption) ?rest75
              case hy75 => intro w hSw; clear hSw; go_simp <;> with_reducible rfl
              simp only [Act.put, sTI, sT0, sT1]
              refine tkY 8 42 (.bool true) rfl ?hy76 (by assumption) ?rest76
              case hy76 => intro w hSw; clear hSw; go_simp <;> (first | with_reducible rfl | (simp; try omega))
              simp only [Act.put, sTI, sT0, sT1]
              refine tkY 9 43 (.bool true) rfl ?hy77 (by assumption) ?rest77
              case hy77 => intro w hSw; clear hSw; go_simp <;> (first | with_reducible rfl | (simp; try omega))
              simp only [Act.put, sTI, sT0, sT1]
              refine tkY 10 44 ?v78 rfl ?hy78 (by assumption) ?rest78
              case hy78 => intro w hSw; clear hSw; go_simp <;> with_reducible rfl
              simp only [Act.put, sTI, sT0, sT1]
              refine tkY 11 45 ?v79 rfl ?hy79 (by assumption) ?rest79
              case hy79 => intro w hSw; clear hSw; go_simp <;> with_reducible rfl
              simp only [Act.put, sTI, sT0, sT1]
              refine tkY 12 46 ?v80 rfl ?hy80 (by assumption) ?rest80
              case hy80 => intro w hSw; clear hSw; go_simp <;> with_reducible rfl
              simp only [Act.put, sTI, sT0, sT1]
              refine tkY 13 47 ?v81 rfl ?hy81 (by assumption) ?rest81
              case hy81 => intro w hSw; clear hSw; go_simp <;> with_reducible rfl
              simp only [Act.put, sTI, sT0, sT1]
              refine tkY 14 48 ?v82 rfl ?hy82 (by assumption) ?rest82
              case hy82 => intro w hSw; have c0 := hSw.2.1.1; have c9 := hSw.2.2.1; clear hSw; go_simp <;> with_reducible rfl
              simp only [Act.put, sTI, sT0, sT1]
              refine tkY 15 49 (.bool true) rfl ?hy83 (by assumption) ?rest83
              case hy83 => intro w hSw; have e1 := HE1.out; have e1N : ki = 1 := (by omega); clear hSw; go_simp <;> (first | with_reducible rfl | (simp; try omega))
              simp only [Act.put, sTI, sT0, sT1]
              refine tkY 16 50 (.bool true) rfl ?hy84 (by assumption) ?rest84
              case hy84 => intro w hSw; clear hSw; go_simp <;> (first | with_reducible rfl | (simp; try omega))
              simp only [Act.put, sTI, sT0, sT1]
              refine tkY 17 51 (.bool true) rfl ?hy85 (by assumption) ?rest85
              case hy85 => intro w hSw; clear hSw; go_simp <;> (first | with_reducible rfl | (simp; try omega))
              simp only [Act.put, sTI, sT0, sT1]
              refine tkY 18 52 ?v86 rfl ?hy86 (by assumption) ?rest86
              case hy86 => intro w hSw; clear hSw; go_simp <;> with_reducible rfl
              simp only [Act.put, sTI, sT0, sT1]
              refine tkY 19 53 ?v87 rfl ?hy87 (by assumption) ?rest87
              case hy87 => intro w hSw; clear hSw; go_simp <;> with_reducible rfl
              simp only [Act.put, sTI, sT0, sT1]
              refine tkY 20 54 ?v88 rfl ?hy88 (by assumption) ?rest88
              case hy88 => intro w hSw; clear hSw; go_simp <;> with_reducible rfl
              simp only [Act.put, sTI, sT0, sT1]
              refine tkY 21 55 ?v89 rfl ?hy89 (by assumption) ?rest89
              case hy89 => intro w hSw; clear hSw; go_simp <;> with_reducible rfl
              simp only [Act.put, sTI, sT0, sT1]
              refine tkY 22 56 ?v90 rfl ?hy90 (by assumption) ?rest90
              case hy90 => intro w hSw; clear hSw; go_simp <;> with_reducible rfl
              simp only [Act.put, sTI, sT0, sT1]
              refine tkY 23 57 ?v91 rfl ?hy91 (by assumption) ?rest91
              case hy91 => intro w hSw; have c0 := hSw.2.2.2.1; have c9 := hSw.2.2.1; clear hSw; go_simp <;> with_reducible rfl
              simp only [Act.put, sTI, sT0, sT1]
              refine tkY 24 58 (.bool true) rfl ?hy92 (by assumption) ?rest92
              case hy92 => intro w hSw; have e2 := HE2.out; have e2N : kj = 1 := (by omega); clear hSw; go_simp <;> (first | with_reducible rfl | (simp; try omega))
              simp only [Act.put, sTI, sT0, sT1]
              refine tkY 25 59 (.bool true) rfl ?hy93 (by assumption) ?rest93
              case hy93 => intro w hSw; clear hSw; go_simp <;> (first | with_reducible rfl | (simp; try omega))
              simp only [Act.put, sTI, sT0, sT1]
              refine tkY 26 60 (.bool true) rfl ?hy94 (by assumption) ?rest94
              case hy94 => intro w hSw; clear hSw; go_simp <;> (first | with_reducible rfl | (simp; try omega))
              simp only [Act.put, sTI, sT0, sT1]
              refine tkY 27 61 ?v95 rfl ?hy95 (by assumption) ?rest95
              case hy95 => intro w hSw; clear hSw; go_simp <;> with_reducible rfl
              simp only [Act.put, sTI, sT0, sT1]
              refine tkY 28 62 ?v96 rfl ?hy96 (by assumption) ?rest96
              case hy96 => intro w hSw; clear hSw; go_simp <;> with_reducible rfl
              simp only [Act.put, sTI, sT0, sT1]
              refine tkY 29 63 ?v97 rfl ?hy97 (by assumption) ?rest97
              case hy97 => intro w hSw; clear hSw; go_simp <;> with_reducible rfl
              simp only [Act.put, sTI, sT0, sT1]
              refine tkY 30 64 ?v98 rfl ?hy98 (by assumption) ?rest98
              case hy98 => intro w hSw; clear hSw; go_simp <;> with_reducible rfl
              simp only [Act.put, sTI, sT0, sT1]
              refine tkY 31 65 ?v99 rfl ?hy99 (by assumption) ?rest99
              case hy99 => intro w hSw; have c0 := hSw.2.1.2; have c9 := hSw.2.2.1; clear hSw; go_simp <;> with_reducible rfl
              simp only [Act.put, sTI, sT0, sT1]
              refine tkY 32 66 ?v100 rfl ?hy100 (by assumption) ?rest100
              case hy100 => intro w hSw; clear hSw; go_simp <;> with_reducible rfl
              simp only [Act.put, sTI, sT0, sT1]
              refine tkY 33 67 ?v101 rfl ?hy101 (by assumption) ?rest101
              case hy101 => intro w hSw; clear hSw; go_simp <;> with_reducible rfl
              simp only [Act.put, sTI, sT0, sT1]
              refine tkY 34 68 ?v102 rfl ?hy102 (by assumption) ?rest102
              case hy102 => intro w hSw; clear hSw; go_simp <;> with_reducible rfl
              simp only [Act.put, sTI, sT0, sT1]
              refine tkY 35 69 ?v103 rfl ?hy103 (by assumption) ?rest103
              case hy103 => intro w hSw; clear hSw; go_simp <;> with_reducible rfl
              simp only [Act.put, sTI, sT0, sT1]
              refine tkY 36 70 ?v104 rfl ?hy104 (by assumption) ?rest104
              case hy104 => intro w hSw; clear hSw; go_simp <;> with_reducible rfl
              simp only [Act.put, sTI, sT0, sT1]
              refine tkY 37 71 ?v105 rfl ?hy105 (by assumption) ?rest105
              case hy105 => intro w hSw; have c0 := hSw.2.2.2.2; have c9 := hSw.2.2.1; clear hSw; go_simp <;> with_reducible rfl
              simp only [Act.put, sTI, sT0, sT1]
              refine tkY 38 72 (.bool false) rfl ?hy106 (by assumption) ?rest106
              case hy106 => intro w hSw; clear hSw; go_simp <;> (first | with_reducible rfl | (simp; try omega))
              simp only [Act.put, sTI, sT0, sT1]
              refine tkY 39 73 (.bool false) rfl ?hy107 (by assumption) ?rest107
              case hy107 => intro w hSw; clear hSw; go_simp <;> (first | with_reducible rfl | (simp; try omega))
              simp only [Act.put, sTI, sT0, sT1]
              refine tkY 40 74 (.bool false) rfl ?hy108 (by assumption) ?rest108
              case hy108 => intro w hSw; clear hSw; go_simp <;> (first | with_reducible rfl | (simp; try omega))
              simp only [Act.put, sTI, sT0, sT1]
              refine wpAnyH_done (by kernel_rfl) ?_ _
              clear hHeld
              go_wp2
              go_roundw
              case rel => exact ⟨j + 1, by omega, by go_num, HU1⟩
              case measure => simp [intOf]; omega
    obtain ⟨x, hx⟩ : ∃ x, l1[k]? = some x := ⟨_, List.getElem?_eq_getElem (by rw [HN1.out]; exact hlt)⟩
    obtain ⟨b, off, rfl, hb, hrg⟩ := HS.out.rec14 hx
    have htm := HT1.out x (List.mem_of_getElem? hx)
    have HRG := hide_ (fun (u : World) (h : Below w.heap.size w u) => hrg u (fun q hq => h.cell hq))
    have HNX := hide_ (foldsP_succ hx)
    have HFO := hide_ (fun (u : World) (h : Below wr.heap.size wr u) => Fold_any14 s x u.heap.size u (HSA.out.step h).good ((htm.below (HB.out.trans (h.mono HB.out.size))).more (HB.out.trans (h.mono HB.out.size)).size) (Nat.le_refl _))
    have HSZ := hide_ s.box_size
    have HSV := hide_ (show s.v = .agg s.box from rfl)
    have HXV := hide_ (show x.v = .agg x.cs.toArray from rfl)
    have HXL := hide_ x.cs_len
    obtain ⟨VS, hVS⟩ : ∃ V, s.v = V := ⟨_, rfl⟩
    obtain ⟨VX, hVX⟩ : ∃ V, x.v = V := ⟨_, rfl⟩
    simp only [hVS, hVX] at HFO
    rw [hVS] at HSV
    rw [hVX] at HXV
    have HBL := hide_ (fun (u : World) (h : Below w.heap.size w u) => Nat.lt_of_lt_of_le hb h.size)
    have hbz := HBL.out _ HB.out
    have hk21 : (k : Int) * 21 = ((k * 21 : Nat) : Int) := by omega
    have hlt2 : ((k : Int) < (n1 : Int)) := by omega
    clear hx hrg htm hVS hVX hb
    have HD := hide_ (show Below wr.heap.size wr wr.drew from (Below.refl _ _).drew)
    have HBD := hide_ (HB.out.trans (HD.out.mono HB.out.size))
    go_upto_region 7 with fail
    refine wp_region_held_drew (S := fun u => u.rangeAt b (off + k * 21) x.cs) (by kernel_rfl) (HRG.out _ HBD.out) (fun hHeld => ?_)
    refine tkY 1 19 ?v109 rfl ?hy109 (by assumption) ?rest109
    case hy109 => intro w hSw; clear hSw; go_simp <;> with_reducible rfl
    simp only [Act.put, sTI, sT0, sT1]
    refine tkY 2 20 ?v110 rfl ?hy110 (by assumption) ?rest110
    case hy110 => intro w hSw; clear hSw; go_simp <;> with_reducible rfl
    simp only [Act.put, sTI, sT0, sT1]
    refine tkY 3 21 ?v111 rfl ?hy111 (by assumption) ?rest111
    case hy111 => intro w hSw; clear hSw; go_simp <;> with_reducible rfl
    simp only [Act.put, sTI, sT0, sT1]
    refine wpAnyH_take (i := 4) (oi := ⟨some 22, _, _, _, _, _⟩) (v := VX) rfl (by kernel_rfl) (by kernel_rfl) (by kernel_rfl) (fun _ _ _ h => h) (yl_range 54 (by rfl) _ (by rfl) rec_size rec_row HXV.out (fun _ h => h) HXL.out (by rfl)) (by assumption) ?_
    simp only [Act.put, sTI, sT0, sT1]
    refine wpAnyH_ready (rs := [0]) (by kernel_rfl) (by simp) ?_
    refine AllReadyH.cons rfl (fun K hK => ?_) AllReadyH.nil
    refine step_load_whole 68 (by rfl) _ (by rfl) sta_size sta_row (HY.out.below HD.out) (by rfl) HSZ.out ?_
    rw [← HSV.out]
    refine hK.out _ _ (HRG.out _ HBD.out) (fun hHeld => ?_)
    clear hK K
    try simp only [Act.put, sTI]
    refine wpAnyH_ready (rs := [5]) (by kernel_rfl) (by simp) ?_
    refine AllReadyH.cons rfl (fun K hK => ?_) AllReadyH.nil
    go_simp
    go_wp2_with fail
    refine (HFO.out _ HD.out).mono ?_
    rintro en u1 ⟨y, rfl, hyp, hyf, hb1⟩
    have HU1 := hide_ (HD.out.trans (hb1.mono HD.out.size))
    have HBU := hide_ (HB.out.trans (HU1.out.mono HB.out.size))
    have HY1 := hide_ (HY.out.below HU1.out)
    have HYP := hide_ (hyp.trans (by rw [HP.out, ← HNX.out]))
    have HYF := hide_ (hyf.aside (row := some g5) (fun q hq => by injection hq with hq; have := HY.out.lt; have := HD.out.size; omega))
    clear hyp hyf hb1
    have HYZ := hide_ y.box_size
    have HYO := hide_ y.one
    have HYV := hide_ (show y.v = .agg y.box from rfl)
    obtain ⟨VY, hVY⟩ : ∃ V, y.v = V := ⟨_, rfl⟩
    rw [hVY] at HYV ⊢
    clear hVY
    refine hK.out _ _ (HRG.out _ HBU.out) (fun hHeld => ?_)
    clear hK K
    refine wpAnyH_ready (rs := [6]) (by kernel_rfl) (by simp) ?_
    refine AllReadyH.cons rfl (fun K hK => ?_) AllReadyH.nil
    refine step_store_whole 68 (by rfl) _ _ (by rfl) sta_size (by rfl) (by rfl) (cs := y.box) HYV.out HYZ.out HYO.out HY1.out HSZ.out ?_ (by rfl)
    intro W6 HY6 HG6 HZ6
    have HB6 := hide_ (HBU.out.grown HG6.out HBU.out.size (fun q hq => by injection hq with hq; have := HGL.out; omega))
    refine hK.out _ _ (HRG.out _ HB6.out) (fun hHeld => ?_)
    clear hK K
    refine wpAnyH_done (by kernel_rfl) ?_ _
    clear hHeld
    go_wp2
    go_roundw
    case rel => exact ⟨k + 1, y, by omega, by go_num, HYP, hide_ (HYF.out.set HG6.out), HY6, HB6⟩
    case measure => simp [intOf]; omega

theorem own : ownKnob Tryz.prog.godebug = none := by kernel_rfl
theorem laid : laidOutB Tryz.prog = true := by kernel_rfl

set_option maxRecDepth 100000 in
theorem contract (H : Type) (enc : TypeId × Value → H) (W : World) (base : Nat) (args : Array Value) (ds gs : List (DataW H)) (before : List MemPlace)
    (hval : ∀ (j : Nat) t v, Tryz.f5.params[j]? = some t → args[j]? = some v → Value.okWide Tryz.prog W .any base t v)
    (hW : DataW.Whole enc Tryz.prog Tryz.f5.params.toList Rows.recordFoldsSpec.vars false W args.toList ds gs before) :
    Calls Tryz.prog 5 args W fun e W' => ∃ v, e = .returned v ∧ Rows.recordFoldsSpec.post enc Tryz.prog Tryz.f5 false true false false W args v W' := by
  have hW' := hW
  obtain ⟨p, q, hA0, hV, rfl, hfz, hnd⟩ := hW
  have hA : DataW.TrodAll enc Tryz.prog W 0 (fun _ => true) true Tryz.f5.params.toList args.toList ds p := hA0
  rw [Tryz.params5] at hA hval
  obtain ⟨v0, vs0, d0, ds0, p0, q0, hargs, rfl, rfl, h0, r0⟩ := trodAll_cons hA
  obtain ⟨rfl, rfl, rfl⟩ := trodAll_nil r0
  obtain rfl : args = #[v0] := by cases args; simp_all
  obtain ⟨rfl, rfl⟩ := trodVars_none hV
  obtain ⟨u0, rfl, bu0⟩ := open_recs (hval 0 56 v0 rfl rfl) h0
  have fin : ∀ (e : Ending) (W' : World), e = .returned (.bool true) ∧ Below W.heap.size W W' → ∃ v, e = .returned v ∧ Rows.recordFoldsSpec.post enc Tryz.prog Tryz.f5 false true false false W #[Sl.v u0] v W' :=
    fun e W' ⟨he, hb⟩ => ⟨_, he, law_post laid (by kernel_rfl) rfl rfl rfl Tryz.underlying4 hW' hb⟩
  exact (walk u0 W bu0).mono fin

set_option maxRecDepth 100000 in
theorem lifted (os : Os) (started : os.Started) (H : Type) (enc : TypeId × Value → H) :
    ReturnsInHanded {} Tryz.checked os 5 .any (Rows.recordFoldsSpec.pre6 enc Tryz.prog Tryz.f5 Rows.recordFoldsRow.domain false) (Rows.recordFoldsSpec.post enc Tryz.prog Tryz.f5 false true false false) := by
  refine returnsInHanded_of_change (C := Tryz.checked) (s := Rows.recordFoldsSpec) own started (by kernel_rfl) Tryz.func5
    (ChangeSpec.witness6 (enc := enc) (C := Tryz.checked) false ⟨#[], #[.slice none 0 0], []⟩ 8 (by kernel_rfl) (by kernel_rfl) (by kernel_rfl) (by kernel_rfl)) ?_
  intro W base args ds gs before hval hW _ _
  exact contract H enc W base args ds gs before hval hW

theorem proved : Rows.RecordFoldsSaid :=
  OpenClaim.holds_of_wide 5 Tryz.f5 rfl rfl rfl rfl rfl rfl rfl ⟨rfl, rfl, rfl, rfl, rfl⟩ rfl rfl rfl rfl rfl (by kernel_rfl) Tryz.func5 (by kernel_rfl)
    (of_decide_eq_true (by kernel_rfl)) (by unfold Func.isWrapper; first | (rw [if_pos (by decide +kernel)]; kernel_rfl) | (rw [if_neg (by decide +kernel)]; exact ⟨rfl, rfl⟩))
    (fun os started H enc _ => lifted os started H enc)

end Go.Proofs.YtecbpmnolgkllaaGreat.recordFolds
