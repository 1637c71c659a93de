/-
  Contract of table's taker's method table.
-/
import Derived.Test.YtkjgplcfoihohaaTkRu
namespace Go.Proofs.Ytkjgplcfoihohaa
open Go.RowKit

set_option maxRecDepth 100000 in
set_option maxHeartbeats 12800000 in
theorem table5_any {g : Nat} {s : RS} {w : World} (h : Rdr w g s.1 s.2) (hs : RSok s) : Calls Try.prog 37 #[takerV g] w (PartR (fun x : Int × Int × Sl RuM => tabV x.1 x.2.1 x.2.2) (fun x => (x.1, x.2.1, x.2.2.l.map RuM.bare)) (fun w B x => (I64 x.1 ∧ I64 x.2.1) ∧ rusOk w B x.2.2) (fun x => Sl.ft RuM.ft x.2.2) w g (tabS s)) := by
  have hgl : g < w.heap.size := h.glt
  have hb1 := (numS_ok (most := 1000) hs).2
  have hk1 := (numS_ok (most := 1000) hs).1
  have HC1 := hide_ (fun (u : World) (hr : Rdr u g s.1 s.2) => tOther5_any hr hs)
  obtain ⟨n1, hn1⟩ : ∃ n, (numS 1000 s).1 = n := ⟨_, rfl⟩
  obtain ⟨s1, hs1⟩ : ∃ t, (numS 1000 s).2 = t := ⟨_, rfl⟩
  rw [hn1] at hb1
  rw [hs1] at hk1
  simp only [hn1, hs1] at HC1
  have hb2 := (numS_ok (most := 1000) hk1).2
  have hk2 := (numS_ok (most := 1000) hk1).1
  have HC2 := hide_ (fun (u : World) (hr : Rdr u g s1.1 s1.2) => tOther5_any hr hk1)
  obtain ⟨n2, hn2⟩ : ∃ n, (numS 1000 s1).1 = n := ⟨_, rfl⟩
  obtain ⟨s2, hs2⟩ : ∃ t, (numS 1000 s1).2 = t := ⟨_, rfl⟩
  rw [hn2] at hb2
  rw [hs2] at hk2
  simp only [hn2, hs2] at HC2
  have HB1 := hide_ hb1
  have HB2 := hide_ hb2
  have HKN := hide_ hk2
  obtain ⟨rl, hrl⟩ : ∃ r, (manyS 32 ruleS s2).1 = r := ⟨_, rfl⟩
  obtain ⟨s3, hs3⟩ : ∃ r, (manyS 32 ruleS s2).2 = r := ⟨_, rfl⟩
  have HP := hide_ (show tabS s = (((n1 : Int), (n2 : Int), rl), s3) by unfold tabS; simp only [hn1, hs1, hn2, hs2, hrl, hs3])
  have HMR := hide_ (show manyS 32 ruleS s2 = (rl, s3) by rw [← hrl, ← hs3])
  rw [HP.out]
  clear hrl hs3
  have HG0 := hide_ (World.grownBy.refl ((w.alloc (.cells #[.pointer (some ⟨g, 0, none⟩)] 85)).alloc (.cells #[.int .i64 0, .int .i64 0, .slice none 0 0] 24)).drew (some g))
  have HR0 := hide_ (show Rdr ((w.alloc (.cells #[.pointer (some ⟨g, 0, none⟩)] 85)).alloc (.cells #[.int .i64 0, .int .i64 0, .slice none 0 0] 24)).drew g s.1 s.2 from ((h.made _).made _).drawn)
  have HR0A := hide_ (show Rdr (((w.alloc (.cells #[.pointer (some ⟨g, 0, none⟩)] 85)).alloc (.cells #[.int .i64 0, .int .i64 0, .slice none 0 0] 24)).alloc (.cells #[.int .i64 0, .int .i64 0, .slice none 0 0] 24)).drew g s.1 s.2 from (((h.made _).made _).made _).drawn)
  have HG0A := hide_ (show ((w.alloc (.cells #[.pointer (some ⟨g, 0, none⟩)] 85)).alloc (.cells #[.int .i64 0, .int .i64 0, .slice none 0 0] 24)).drew.grownBy (((w.alloc (.cells #[.pointer (some ⟨g, 0, none⟩)] 85)).alloc (.cells #[.int .i64 0, .int .i64 0, .slice none 0 0] 24)).alloc (.cells #[.int .i64 0, .int .i64 0, .slice none 0 0] 24)).drew (some g) from World.grownBy_alloc ((w.alloc (.cells #[.pointer (some ⟨g, 0, none⟩)] 85)).alloc (.cells #[.int .i64 0, .int .i64 0, .slice none 0 0] 24)).drew _ _)
  have HB0 := hide_ (show BoxAt ((w.alloc (.cells #[.pointer (some ⟨g, 0, none⟩)] 85)).alloc (.cells #[.int .i64 0, .int .i64 0, .slice none 0 0] 24)).drew w.heap.size #[.pointer (some ⟨g, 0, none⟩)] 85 from (BoxAt.new w _ _).alloc (.cells #[.int .i64 0, .int .i64 0, .slice none 0 0] 24))
  have HZ0 := hide_ (show BoxAt ((w.alloc (.cells #[.pointer (some ⟨g, 0, none⟩)] 85)).alloc (.cells #[.int .i64 0, .int .i64 0, .slice none 0 0] 24)).drew (w.heap.size + 1) #[.int .i64 0, .int .i64 0, .slice none 0 0] 24 from by
    have h1 := BoxAt.new (w.alloc (.cells #[.pointer (some ⟨g, 0, none⟩)] 85)) #[.int .i64 0, .int .i64 0, .slice none 0 0] 24
    have h2 : BoxAt ((w.alloc (.cells #[.pointer (some ⟨g, 0, none⟩)] 85)).alloc (.cells #[.int .i64 0, .int .i64 0, .slice none 0 0] 24)) (w.heap.size + 1) #[.int .i64 0, .int .i64 0, .slice none 0 0] 24 := by simpa using h1
    exact h2)
  have HT0 := hide_ (show BoxAt (((w.alloc (.cells #[.pointer (some ⟨g, 0, none⟩)] 85)).alloc (.cells #[.int .i64 0, .int .i64 0, .slice none 0 0] 24)).alloc (.cells #[.int .i64 0, .int .i64 0, .slice none 0 0] 24)).drew (w.heap.size + 1 + 1) #[.int .i64 0, .int .i64 0, .slice none 0 0] 24 from by
    have h1 := BoxAt.new ((w.alloc (.cells #[.pointer (some ⟨g, 0, none⟩)] 85)).alloc (.cells #[.int .i64 0, .int .i64 0, .slice none 0 0] 24)) #[.int .i64 0, .int .i64 0, .slice none 0 0] 24
    have h2 : BoxAt (((w.alloc (.cells #[.pointer (some ⟨g, 0, none⟩)] 85)).alloc (.cells #[.int .i64 0, .int .i64 0, .slice none 0 0] 24)).alloc (.cells #[.int .i64 0, .int .i64 0, .slice none 0 0] 24)) (w.heap.size + 1 + 1) #[.int .i64 0, .int .i64 0, .slice none 0 0] 24 := by simpa using h1
    exact h2)
  have HBX := hide_ (fun (u : World) (hu : w.grownBy u (some g)) (hb : BoxAt u w.heap.size #[.pointer (some ⟨g, 0, none⟩)] 85) => show u.cell? ⟨w.heap.size, 0, none⟩ = some (.pointer (some ⟨g, 0, none⟩)) from hb.cell 0)
  have HFAR := hide_ (fun (u u' : World) (b : Nat) (cs : Array Value) (t : TypeId) (hu : u.grownBy u' (some g)) (hb : BoxAt u b cs t) (hne : g ≠ b) => show BoxAt u' b cs t from box_far hu hb hne)
  have HKEEP := hide_ (fun (u : World) (hu : ((w.alloc (.cells #[.pointer (some ⟨g, 0, none⟩)] 85)).alloc (.cells #[.int .i64 0, .int .i64 0, .slice none 0 0] 24)).drew.grownBy u (some g)) => show u.cell? ⟨w.heap.size, 0, none⟩ = some (.pointer (some ⟨g, 0, none⟩)) from (HFAR.out _ _ _ _ _ hu HB0.out (by omega)).cell 0)
  clear h hs hn1 hn2 hs1 hs2 hk1 hk2
  unfold takerV
  go_enter Try.func37, Try.ntmps37
  go_upto_region 1 with fail
  go_cut [3] (fun x wx => ∃ b, x = .pointer (some ⟨b, 0, none⟩) ∧ w.heap.size + 2 ≤ b ∧ Hid (BoxAt wx b #[.int .i64 n1, .int .i64 n2, .slice none 0 0] 24) ∧ Hid (BoxAt wx w.heap.size #[.pointer (some ⟨g, 0, none⟩)] 85) ∧ Hid (BoxAt wx (w.heap.size + 1) #[.int .i64 0, .int .i64 0, .slice none 0 0] 24) ∧ Hid (Rdr wx g s2.1 s2.2) ∧ Hid (w.grownBy wx (some g)))
  case first =>
    refine wp_region_held_drew (S := fun w' => w'.cell? ⟨w.heap.size, 0, none⟩ = some (.pointer (some ⟨g, 0, none⟩))) (by kernel_rfl) (HKEEP.out _ HG0.out) (fun hHeld => ?_)
    refine wpAnyH_take (i := 0) (oi := ⟨some 4, _, _, _, _, _⟩) (v := ?v1) rfl (by kernel_rfl) (by kernel_rfl) (by kernel_rfl) (fun _ _ _ h => h) (Or.inl ⟨by rfl, ?hy1⟩) (by assumption) ?rest1
    case hy1 => intro w hSw; (try dsimp only at hSw); go_simp <;> with_reducible rfl
    simp only [Act.put, List.setIfInBounds_toArray, List.set_cons_zero, List.set_cons_succ]
    refine wpAnyH_take (i := 2) (oi := ⟨some 6, _, _, _, _, _⟩) (v := ?v2) rfl (by kernel_rfl) (by kernel_rfl) (by kernel_rfl) (fun _ _ _ h => h) (Or.inl ⟨by rfl, ?hy2⟩) (by assumption) ?rest2
    case hy2 => intro w hSw; (try dsimp only at hSw); go_simp <;> with_reducible rfl
    simp only [Act.put, List.setIfInBounds_toArray, List.set_cons_zero, List.set_cons_succ]
    refine wpAnyH_ready (rs := [1, 5]) (by kernel_rfl) (by simp) ?_
    refine AllReadyH.cons rfl (fun K hK => ?_) (AllReadyH.cons rfl (fun K hK => ?_) AllReadyH.nil)
    · skip
      go_simp
      go_wp2_with fail
      refine (HC1.out _ HR0.out).mono ?_
      rintro en w1 ⟨rfl, hr1, hg1⟩
      have HR1 := hide_ hr1
      have HG1 := hide_ (grown_join HG0.out hg1)
      clear hr1 hg1
      refine hK.out _ _ (HKEEP.out _ HG1.out) (fun hHeld => ?_)
      clear hK K
      refine wpAnyH_ready (rs := [3, 5]) (by kernel_rfl) (by simp) ?_
      refine AllReadyH.cons rfl (fun K hK => ?_) (AllReadyH.cons rfl (fun K hK => ?_) AllReadyH.nil)
      · skip
        go_simp
        go_wp2_with fail
        refine (HC2.out _ HR1.out).mono ?_
        rintro en w2 ⟨rfl, hr2, hg2⟩
        have HR2 := hide_ hr2
        have HG2 := hide_ (grown_join HG1.out hg2)
        clear hr2 hg2
        refine hK.out _ _ (HKEEP.out _ HG2.out) (fun hHeld => ?_)
        clear hK K
        refine wpAnyH_take (i := 4) (oi := ⟨some 8, _, _, _, _, _⟩) (v := ?v3) rfl (by kernel_rfl) (by kernel_rfl) (by kernel_rfl) (fun _ _ _ h => h) (Or.inl ⟨by rfl, ?hy3⟩) (by assumption) ?rest3
        case hy3 => intro w hSw; (try dsimp only at hSw); go_simp <;> with_reducible rfl
        simp only [Act.put, List.setIfInBounds_toArray, List.set_cons_zero, List.set_cons_succ]
        refine wpAnyH_ready (rs := [5]) (by kernel_rfl) (by simp) ?_
        refine AllReadyH.cons rfl (fun K hK => ?_) AllReadyH.nil
        go_simp
        refine hK.out _ _ (HKEEP.out _ (grown_join HG2.out (World.grownBy_alloc _ _ _))) (fun hHeld => ?_)
        clear hK K
        have HTP := hide_ (BoxAt.new w2 #[.int .i64 0, .int .i64 0, .slice none 0 0] 24)
        have q0 := (HTP.out.cell 0).trans (show _ = some (.int .i64 0) from rfl)
        have f0 := HTP.out.frozen 0
        have q1 := (HTP.out.cell 1).trans (show _ = some (.int .i64 0) from rfl)
        have f1 := HTP.out.frozen 1
        have q2 := (HTP.out.cell 2).trans (show _ = some (.slice none 0 0) from rfl)
        have f2 := HTP.out.frozen 2
        refine wpAnyH_ready (rs := [6]) (by kernel_rfl) (by simp) ?_
        refine AllReadyH.cons rfl (fun K hK => ?_) AllReadyH.nil
        go_simp
        refine hK.out _ _ ?keep (fun hHeld => ?_)
        case keep => exact HKEEP.out _ (grown_join HG2.out (World.grownBy_alloc _ _ _))
        clear hK K
        refine wpAnyH_done (by kernel_rfl) ?_ _
        clear q0 f0 q1 f1 q2 f2
        go_wp2_with fail
        go_meet
        exact ⟨_, rfl, (by (have h := HG2.out.size); simp at h; omega), BoxAt.new _ _ _, HFAR.out _ _ _ _ _ (grown_join HG2.out (World.grownBy_alloc _ _ _)) HB0.out (by omega), HFAR.out _ _ _ _ _ (grown_join HG2.out (World.grownBy_alloc _ _ _)) HZ0.out (by omega), HR2.out.made _, grown_made (grown_made (grown_ndrew (grown_join HG2.out (World.grownBy_alloc _ _ _))))⟩
      · go_simp
        refine hK.out _ _ (HKEEP.out _ (grown_join HG1.out (World.grownBy_alloc _ _ _))) (fun hHeld => ?_)
        clear hK K
        refine wpAnyH_ready (rs := [3]) (by kernel_rfl) (by simp) ?_
        refine AllReadyH.cons rfl (fun K hK => ?_) AllReadyH.nil
        go_simp
        go_wp2_with fail
        refine (HC2.out _ (HR1.out.made (.cells #[.int .i64 0, .int .i64 0, .slice none 0 0] 24))).mono ?_
        rintro en w2 ⟨rfl, hr2, hg2⟩
        have HR2 := hide_ hr2
        have HG2 := hide_ (grown_join (grown_join HG1.out (World.grownBy_alloc w1 (.cells #[.int .i64 0, .int .i64 0, .slice none 0 0] 24) _)) hg2)
        have HL2 := hide_ HG1.out.size
        have HT2 := hide_ (HFAR.out _ _ _ _ _ hg2 (BoxAt.new w1 #[.int .i64 0, .int .i64 0, .slice none 0 0] 24) (by (have h := HL2.out); simp at h; omega))
        clear hr2 hg2
        refine hK.out _ _ (HKEEP.out _ HG2.out) (fun hHeld => ?_)
        clear hK K
        refine wpAnyH_take (i := 4) (oi := ⟨some 8, _, _, _, _, _⟩) (v := ?v4) rfl (by kernel_rfl) (by kernel_rfl) (by kernel_rfl) (fun _ _ _ h => h) (Or.inl ⟨by rfl, ?hy4⟩) (by assumption) ?rest4
        case hy4 => intro w hSw; (try dsimp only at hSw); go_simp <;> with_reducible rfl
        simp only [Act.put, List.setIfInBounds_toArray, List.set_cons_zero, List.set_cons_succ]
        have q0 := (HT2.out.cell 0).trans (show _ = some (.int .i64 0) from rfl)
        have f0 := HT2.out.frozen 0
        have q1 := (HT2.out.cell 1).trans (show _ = some (.int .i64 0) from rfl)
        have f1 := HT2.out.frozen 1
        have q2 := (HT2.out.cell 2).trans (show _ = some (.slice none 0 0) from rfl)
        have f2 := HT2.out.frozen 2
        refine wpAnyH_ready (rs := [6]) (by kernel_rfl) (by simp) ?_
        refine AllReadyH.cons rfl (fun K hK => ?_) AllReadyH.nil
        go_simp
        refine hK.out _ _ ?keep (fun hHeld => ?_)
        case keep => exact HKEEP.out _ (grown_stored (grown_stored (grown_stored HG2.out HL2.out) HL2.out) HL2.out)
        clear hK K
        refine wpAnyH_done (by kernel_rfl) ?_ _
        clear q0 f0 q1 f1 q2 f2
        go_wp2_with fail
        go_meet
        have htf := (heap_set 2 (.slice none 0 0) (heap_set 1 (.int .i64 n2) (heap_set 0 (.int .i64 n1) HT2.out)))
        simp only [List.setIfInBounds_toArray, List.set_cons_zero, List.set_cons_succ] at htf
        exact ⟨_, rfl, (by (have h := HL2.out); simp at h; omega), htf, HFAR.out _ _ _ _ _ (grown_stored (grown_stored (grown_stored HG2.out HL2.out) HL2.out) HL2.out) HB0.out (by omega), HFAR.out _ _ _ _ _ (grown_stored (grown_stored (grown_stored HG2.out HL2.out) HL2.out) HL2.out) HZ0.out (by omega), (((HR2.out.stored (by (have h := HL2.out); simp at h; omega)).stored (by (have h := HL2.out); simp at h; omega)).stored (by (have h := HL2.out); simp at h; omega)), grown_made (grown_made (grown_ndrew (grown_stored (grown_stored (grown_stored HG2.out HL2.out) HL2.out) HL2.out)))⟩
    · go_simp
      refine hK.out _ _ (HKEEP.out _ HG0A.out) (fun hHeld => ?_)
      clear hK K
      refine wpAnyH_ready (rs := [1]) (by kernel_rfl) (by simp) ?_
      refine AllReadyH.cons rfl (fun K hK => ?_) AllReadyH.nil
      go_simp
      go_wp2_with fail
      refine (HC1.out _ HR0A.out).mono ?_
      rintro en w1 ⟨rfl, hr1, hg1⟩
      have HR1 := hide_ hr1
      have HG1 := hide_ (grown_join HG0A.out hg1)
      have HL1 := hide_ (show ((w.alloc (.cells #[.pointer (some ⟨g, 0, none⟩)] 85)).alloc (.cells #[.int .i64 0, .int .i64 0, .slice none 0 0] 24)).drew.heap.size ≤ w.heap.size + 1 + 1 by simp)
      have HT1 := hide_ (HFAR.out _ _ _ _ _ hg1 HT0.out (by (have h := HL1.out); simp at h; omega))
      clear hr1 hg1
      refine hK.out _ _ (HKEEP.out _ HG1.out) (fun hHeld => ?_)
      clear hK K
      refine wpAnyH_ready (rs := [3]) (by kernel_rfl) (by simp) ?_
      refine AllReadyH.cons rfl (fun K hK => ?_) AllReadyH.nil
      go_simp
      go_wp2_with fail
      refine (HC2.out _ HR1.out).mono ?_
      rintro en w2 ⟨rfl, hr2, hg2⟩
      have HR2 := hide_ hr2
      have HG2 := hide_ (grown_join HG1.out hg2)
      have HL2 := hide_ HL1.out
      have HT2 := hide_ (HFAR.out _ _ _ _ _ hg2 HT1.out (by (have h := HL2.out); simp at h; omega))
      clear hr2 hg2
      refine hK.out _ _ (HKEEP.out _ HG2.out) (fun hHeld => ?_)
      clear hK K
      refine wpAnyH_take (i := 4) (oi := ⟨some 8, _, _, _, _, _⟩) (v := ?v5) rfl (by kernel_rfl) (by kernel_rfl) (by kernel_rfl) (fun _ _ _ h => h) (Or.inl ⟨by rfl, ?hy5⟩) (by assumption) ?rest5
      case hy5 => intro w hSw; (try dsimp only at hSw); go_simp <;> with_reducible rfl
      simp only [Act.put, List.setIfInBounds_toArray, List.set_cons_zero, List.set_cons_succ]
      have q0 := (HT2.out.cell 0).trans (show _ = some (.int .i64 0) from rfl)
      have f0 := HT2.out.frozen 0
      have q1 := (HT2.out.cell 1).trans (show _ = some (.int .i64 0) from rfl)
      have f1 := HT2.out.frozen 1
      have q2 := (HT2.out.cell 2).trans (show _ = some (.slice none 0 0) from rfl)
      have f2 := HT2.out.frozen 2
      refine wpAnyH_ready (rs := [6]) (by kernel_rfl) (by simp) ?_
      refine AllReadyH.cons rfl (fun K hK => ?_) AllReadyH.nil
      go_simp
      refine hK.out _ _ ?keep (fun hHeld => ?_)
      case keep => exact HKEEP.out _ (grown_stored (grown_stored (grown_stored HG2.out HL2.out) HL2.out) HL2.out)
      clear hK K
      refine wpAnyH_done (by kernel_rfl) ?_ _
      clear q0 f0 q1 f1 q2 f2
      go_wp2_with fail
      go_meet
      have htf := (heap_set 2 (.slice none 0 0) (heap_set 1 (.int .i64 n2) (heap_set 0 (.int .i64 n1) HT2.out)))
      simp only [List.setIfInBounds_toArray, List.set_cons_zero, List.set_cons_succ] at htf
      exact ⟨_, rfl, (by (have h := HL2.out); simp at h; omega), htf, HFAR.out _ _ _ _ _ (grown_stored (grown_stored (grown_stored HG2.out HL2.out) HL2.out) HL2.out) HB0.out (by omega), HFAR.out _ _ _ _ _ (grown_stored (grown_stored (grown_stored HG2.out HL2.out) HL2.out) HL2.out) HZ0.out (by omega), (((HR2.out.stored (by (have h := HL2.out); simp at h; omega)).stored (by (have h := HL2.out); simp at h; omega)).stored (by (have h := HL2.out); simp at h; omega)), grown_made (grown_made (grown_ndrew (grown_stored (grown_stored (grown_stored HG2.out HL2.out) HL2.out) HL2.out)))⟩
  case rest =>
    obtain ⟨b, rfl, hb2, HT, HB, HZ, HR, HG⟩ := hcut
    have HM := hide_ (manyRule5_any (w := wc) 32 (by omega) RuM.bare 78 #[takerV g] #[] ruleS HR.out HKN.out (fun _ h => ruleS_ok h) (fun _ _ => rfl) (fun w1 s1 _ hr hs1 => rule5_any hr hs1))
    rw [HMR.out] at HM
    unfold takerV at HM
    clear HP HG0 HR0 HR0A HG0A HB0 HZ0 HT0 HBX HKEEP HC1 HC2
    have hzb : b < wc.heap.size := HT.out.lt
    have hgb : g < b := by omega
    have hzl : w.heap.size + 1 < b := by omega
    have hcx := HB.out.cell
    go_wp2_with fail
    refine HM.out.mono ?_
    rintro en w3 ⟨x, rfl, hp, ho, hl, hr, hg⟩
    have HPP := hide_ hp
    have HOK := hide_ ho
    have HLI := hide_ hl
    have HR3 := hide_ hr
    have HG3 := hide_ (grown_join HG.out hg)
    have HT3 := hide_ (HFAR.out _ _ _ _ _ hg HT.out (by omega))
    have HZ3 := hide_ (HFAR.out _ _ _ _ _ hg HZ.out (by omega))
    clear hp ho hl hr hg hcx
    obtain ⟨xA, xc, xl⟩ := x
    simp only [Sl.v]
    have hzb3 : b < w3.heap.size := HT3.out.lt
    have q0 := (HT3.out.cell 0).trans (show _ = some (Value.int .i64 n1) from rfl)
    have q1 := (HT3.out.cell 1).trans (show _ = some (Value.int .i64 n2) from rfl)
    have q2 := (HT3.out.cell 2).trans (show _ = some (Value.slice none 0 0) from rfl)
    have f2 := HT3.out.frozen 2
    have r0 := (HZ3.out.cell 0).trans (show _ = some (Value.int .i64 0) from rfl)
    have r1 := (HZ3.out.cell 1).trans (show _ = some (Value.int .i64 0) from rfl)
    have r2 := (HZ3.out.cell 2).trans (show _ = some (Value.slice none 0 0) from rfl)
    have g0 := HZ3.out.frozen 0
    have g1 := HZ3.out.frozen 1
    have g2 := HZ3.out.frozen 2
    go_wp2
    refine bodyPost_ret (v := .agg #[.int .i64 n1, .int .i64 n2, .slice xA xl.length xc]) (by simp [results, Try.results37, go_sem, r0, r1, r2]) rfl ?_
    clear q0 q1 q2 f2 r0 r1 r2 g0 g1 g2
    refine ⟨(n1, n2, ⟨xA, xc, xl⟩), rfl, by rw [← HPP.out], ⟨⟨by have := HB1.out; unfold I64; simp; omega, by have := HB2.out; unfold I64; simp; omega⟩, keep_stored rus_local (keep_stored rus_local (keep_stored rus_local (keep_stored rus_local HOK.out HLI.out hzb) HLI.out (by omega)) HLI.out (by omega)) HLI.out (by omega)⟩, HLI.out.more (by have := HG.out.size; omega) (by simp), (((HR3.out.stored hgb).stored (by omega)).stored (by omega)).stored (by omega), grown_stored (grown_stored (grown_stored (grown_stored HG3.out (by omega)) (by omega)) (by omega)) (by omega)⟩
end Go.Proofs.Ytkjgplcfoihohaa
