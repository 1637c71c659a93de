/-
  Contract of table's taker's method rule.
-/
import Derived.Test.YtkjgplcfoihohaaTk5c
namespace Go.Proofs.Ytkjgplcfoihohaa
open Go.RowKit

set_option maxRecDepth 100000 in
set_option maxHeartbeats 12800000 in
theorem rule5_any {g : Nat} {s : RS} {w : World} (h : Rdr w g s.1 s.2) (hs : RSok s) : Calls Try.prog 78 #[takerV g] w (PartR RuM.v RuM.bare RuM.ok RuM.ft w g (ruleS s)) := by
  have hgl : g < w.heap.size := h.glt
  have hb1 := (numS_ok (most := 1000) hs).2
  have hk1 := (numS_ok (most := 1000) hs).1
  have HC1 := hide_ (fun (u : World) (hr : Rdr u g s.1 s.2) => tOther5_any hr hs)
  obtain ⟨n1, hn1⟩ : ∃ n, (numS 1000 s).1 = n := ⟨_, rfl⟩
  obtain ⟨s1, hs1⟩ : ∃ t, (numS 1000 s).2 = t := ⟨_, rfl⟩
  rw [hn1] at hb1
  rw [hs1] at hk1
  simp only [hn1, hs1] at HC1
  have hb2 := (numS_ok (most := 1000) hk1).2
  have hk2 := (numS_ok (most := 1000) hk1).1
  have HC2 := hide_ (fun (u : World) (hr : Rdr u g s1.1 s1.2) => tOther5_any hr hk1)
  obtain ⟨n2, hn2⟩ : ∃ n, (numS 1000 s1).1 = n := ⟨_, rfl⟩
  obtain ⟨s2, hs2⟩ : ∃ t, (numS 1000 s1).2 = t := ⟨_, rfl⟩
  rw [hn2] at hb2
  rw [hs2] at hk2
  simp only [hn2, hs2] at HC2
  have hb3 := (numS_ok (most := 1000) hk2).2
  have hk3 := (numS_ok (most := 1000) hk2).1
  have HC3 := hide_ (fun (u : World) (hr : Rdr u g s2.1 s2.2) => tOther5_any hr hk2)
  obtain ⟨n3, hn3⟩ : ∃ n, (numS 1000 s2).1 = n := ⟨_, rfl⟩
  obtain ⟨s3, hs3⟩ : ∃ t, (numS 1000 s2).2 = t := ⟨_, rfl⟩
  rw [hn3] at hb3
  rw [hs3] at hk3
  simp only [hn3, hs3] at HC3
  have hb4 := (numS_ok (most := 1000) hk3).2
  have hk4 := (numS_ok (most := 1000) hk3).1
  have HC4 := hide_ (fun (u : World) (hr : Rdr u g s3.1 s3.2) => tOther5_any hr hk3)
  obtain ⟨n4, hn4⟩ : ∃ n, (numS 1000 s3).1 = n := ⟨_, rfl⟩
  obtain ⟨s4, hs4⟩ : ∃ t, (numS 1000 s3).2 = t := ⟨_, rfl⟩
  rw [hn4] at hb4
  rw [hs4] at hk4
  simp only [hn4, hs4] at HC4
  have HB1 := hide_ hb1
  have HB2 := hide_ hb2
  have HB3 := hide_ hb3
  have HB4 := hide_ hb4
  have HKN := hide_ hk4
  obtain ⟨fl, hfl⟩ : ∃ r, (fmlS s4).1 = r := ⟨_, rfl⟩
  obtain ⟨s5, hs5⟩ : ∃ r, (fmlS s4).2 = r := ⟨_, rfl⟩
  obtain ⟨sl, hsl⟩ : ∃ r, (manyS 8 setS s5).1 = r := ⟨_, rfl⟩
  obtain ⟨s6, hs6⟩ : ∃ r, (manyS 8 setS s5).2 = r := ⟨_, rfl⟩
  obtain ⟨el, hel⟩ : ∃ r, (manyS 4 emS s6).1 = r := ⟨_, rfl⟩
  obtain ⟨s7, hs7⟩ : ∃ r, (manyS 4 emS s6).2 = r := ⟨_, rfl⟩
  have HP := hide_ (show ruleS s = ((⟨(n1 : Int), (n2 : Int), (n3 : Int), (n4 : Int), ⟨none, 0, fl⟩, ⟨none, 0, sl⟩, ⟨none, 0, el⟩⟩ : RuM), s7) by unfold ruleS; simp only [hn1, hs1, hn2, hs2, hn3, hs3, hn4, hs4, hfl, hs5, hsl, hs6, hel, hs7])
  have HM1 := hide_ (show fmlS s4 = (fl, s5) by rw [← hfl, ← hs5])
  have HM2 := hide_ (show manyS 8 setS s5 = (sl, s6) by rw [← hsl, ← hs6])
  have HM3 := hide_ (show manyS 4 emS s6 = (el, s7) by rw [← hel, ← hs7])
  have HK5 := hide_ (show RSok s5 from hs5 ▸ fmlS_ok hk4)
  have HK6 := hide_ (show RSok s6 from hs6 ▸ manyS_ok (fun _ h => setS_ok h) HK5.out)
  rw [HP.out]
  clear hfl hs5 hsl hs6 hel hs7
  have HG0 := hide_ (World.grownBy.refl ((w.alloc (.cells #[.pointer (some ⟨g, 0, none⟩)] 85)).alloc (.cells #[.int .i64 0, .int .i64 0, .int .i64 0, .int .i64 0, .slice none 0 0, .slice none 0 0, .slice none 0 0] 40)).drew (some g))
  have HR0 := hide_ (show Rdr ((w.alloc (.cells #[.pointer (some ⟨g, 0, none⟩)] 85)).alloc (.cells #[.int .i64 0, .int .i64 0, .int .i64 0, .int .i64 0, .slice none 0 0, .slice none 0 0, .slice none 0 0] 40)).drew g s.1 s.2 from ((h.made _).made _).drawn)
  have HR0A := hide_ (show Rdr (((w.alloc (.cells #[.pointer (some ⟨g, 0, none⟩)] 85)).alloc (.cells #[.int .i64 0, .int .i64 0, .int .i64 0, .int .i64 0, .slice none 0 0, .slice none 0 0, .slice none 0 0] 40)).alloc (.cells #[.int .i64 0, .int .i64 0, .int .i64 0, .int .i64 0, .slice none 0 0, .slice none 0 0, .slice none 0 0] 40)).drew g s.1 s.2 from (((h.made _).made _).made _).drawn)
  have HG0A := hide_ (show ((w.alloc (.cells #[.pointer (some ⟨g, 0, none⟩)] 85)).alloc (.cells #[.int .i64 0, .int .i64 0, .int .i64 0, .int .i64 0, .slice none 0 0, .slice none 0 0, .slice none 0 0] 40)).drew.grownBy (((w.alloc (.cells #[.pointer (some ⟨g, 0, none⟩)] 85)).alloc (.cells #[.int .i64 0, .int .i64 0, .int .i64 0, .int .i64 0, .slice none 0 0, .slice none 0 0, .slice none 0 0] 40)).alloc (.cells #[.int .i64 0, .int .i64 0, .int .i64 0, .int .i64 0, .slice none 0 0, .slice none 0 0, .slice none 0 0] 40)).drew (some g) from World.grownBy_alloc ((w.alloc (.cells #[.pointer (some ⟨g, 0, none⟩)] 85)).alloc (.cells #[.int .i64 0, .int .i64 0, .int .i64 0, .int .i64 0, .slice none 0 0, .slice none 0 0, .slice none 0 0] 40)).drew _ _)
  have HB0 := hide_ (show BoxAt ((w.alloc (.cells #[.pointer (some ⟨g, 0, none⟩)] 85)).alloc (.cells #[.int .i64 0, .int .i64 0, .int .i64 0, .int .i64 0, .slice none 0 0, .slice none 0 0, .slice none 0 0] 40)).drew w.heap.size #[.pointer (some ⟨g, 0, none⟩)] 85 from (BoxAt.new w _ _).alloc (.cells #[.int .i64 0, .int .i64 0, .int .i64 0, .int .i64 0, .slice none 0 0, .slice none 0 0, .slice none 0 0] 40))
  have HZ0 := hide_ (show BoxAt ((w.alloc (.cells #[.pointer (some ⟨g, 0, none⟩)] 85)).alloc (.cells #[.int .i64 0, .int .i64 0, .int .i64 0, .int .i64 0, .slice none 0 0, .slice none 0 0, .slice none 0 0] 40)).drew (w.heap.size + 1) #[.int .i64 0, .int .i64 0, .int .i64 0, .int .i64 0, .slice none 0 0, .slice none 0 0, .slice none 0 0] 40 from by
    have h1 := BoxAt.new (w.alloc (.cells #[.pointer (some ⟨g, 0, none⟩)] 85)) #[.int .i64 0, .int .i64 0, .int .i64 0, .int .i64 0, .slice none 0 0, .slice none 0 0, .slice none 0 0] 40
    have h2 : BoxAt ((w.alloc (.cells #[.pointer (some ⟨g, 0, none⟩)] 85)).alloc (.cells #[.int .i64 0, .int .i64 0, .int .i64 0, .int .i64 0, .slice none 0 0, .slice none 0 0, .slice none 0 0] 40)) (w.heap.size + 1) #[.int .i64 0, .int .i64 0, .int .i64 0, .int .i64 0, .slice none 0 0, .slice none 0 0, .slice none 0 0] 40 := by simpa using h1
    exact h2)
  have HT0 := hide_ (show BoxAt (((w.alloc (.cells #[.pointer (some ⟨g, 0, none⟩)] 85)).alloc (.cells #[.int .i64 0, .int .i64 0, .int .i64 0, .int .i64 0, .slice none 0 0, .slice none 0 0, .slice none 0 0] 40)).alloc (.cells #[.int .i64 0, .int .i64 0, .int .i64 0, .int .i64 0, .slice none 0 0, .slice none 0 0, .slice none 0 0] 40)).drew (w.heap.size + 1 + 1) #[.int .i64 0, .int .i64 0, .int .i64 0, .int .i64 0, .slice none 0 0, .slice none 0 0, .slice none 0 0] 40 from by
    have h1 := BoxAt.new ((w.alloc (.cells #[.pointer (some ⟨g, 0, none⟩)] 85)).alloc (.cells #[.int .i64 0, .int .i64 0, .int .i64 0, .int .i64 0, .slice none 0 0, .slice none 0 0, .slice none 0 0] 40)) #[.int .i64 0, .int .i64 0, .int .i64 0, .int .i64 0, .slice none 0 0, .slice none 0 0, .slice none 0 0] 40
    have h2 : BoxAt (((w.alloc (.cells #[.pointer (some ⟨g, 0, none⟩)] 85)).alloc (.cells #[.int .i64 0, .int .i64 0, .int .i64 0, .int .i64 0, .slice none 0 0, .slice none 0 0, .slice none 0 0] 40)).alloc (.cells #[.int .i64 0, .int .i64 0, .int .i64 0, .int .i64 0, .slice none 0 0, .slice none 0 0, .slice none 0 0] 40)) (w.heap.size + 1 + 1) #[.int .i64 0, .int .i64 0, .int .i64 0, .int .i64 0, .slice none 0 0, .slice none 0 0, .slice none 0 0] 40 := by simpa using h1
    exact h2)
  have HBX := hide_ (fun (u : World) (hu : w.grownBy u (some g)) (hb : BoxAt u w.heap.size #[.pointer (some ⟨g, 0, none⟩)] 85) => show u.cell? ⟨w.heap.size, 0, none⟩ = some (.pointer (some ⟨g, 0, none⟩)) from hb.cell 0)
  have HFAR := hide_ (fun (u u' : World) (b : Nat) (cs : Array Value) (t : TypeId) (hu : u.grownBy u' (some g)) (hb : BoxAt u b cs t) (hne : g ≠ b) => show BoxAt u' b cs t from box_far hu hb hne)
  have HKEEP := hide_ (fun (u : World) (hu : ((w.alloc (.cells #[.pointer (some ⟨g, 0, none⟩)] 85)).alloc (.cells #[.int .i64 0, .int .i64 0, .int .i64 0, .int .i64 0, .slice none 0 0, .slice none 0 0, .slice none 0 0] 40)).drew.grownBy u (some g)) => show u.cell? ⟨w.heap.size, 0, none⟩ = some (.pointer (some ⟨g, 0, none⟩)) from (HFAR.out _ _ _ _ _ hu HB0.out (by omega)).cell 0)
  clear h hs hn1 hn2 hn3 hn4 hs1 hs2 hs3 hs4 hk1 hk2 hk3 hk4
  unfold takerV
  go_enter Try.func78, Try.ntmps78
  go_upto_region 1 with fail
  go_cut [3] (fun x wx => ∃ b, x = .pointer (some ⟨b, 0, none⟩) ∧ w.heap.size + 2 ≤ b ∧ Hid (BoxAt wx b #[.int .i64 n1, .int .i64 n2, .int .i64 n3, .int .i64 n4, .slice none 0 0, .slice none 0 0, .slice none 0 0] 40) ∧ Hid (BoxAt wx w.heap.size #[.pointer (some ⟨g, 0, none⟩)] 85) ∧ Hid (BoxAt wx (w.heap.size + 1) #[.int .i64 0, .int .i64 0, .int .i64 0, .int .i64 0, .slice none 0 0, .slice none 0 0, .slice none 0 0] 40) ∧ Hid (Rdr wx g s4.1 s4.2) ∧ Hid (w.grownBy wx (some g)))
  case first =>
    refine wp_region_held_drew (S := fun w' => w'.cell? ⟨w.heap.size, 0, none⟩ = some (.pointer (some ⟨g, 0, none⟩))) (by kernel_rfl) (HKEEP.out _ HG0.out) (fun hHeld => ?_)
    refine wpAnyH_take (i := 0) (oi := ⟨some 4, _, _, _, _, _⟩) (v := ?v1) rfl (by kernel_rfl) (by kernel_rfl) (by kernel_rfl) (fun _ _ _ h => h) (Or.inl ⟨by rfl, ?hy1⟩) (by assumption) ?rest1
    case hy1 => intro w hSw; (try dsimp only at hSw); go_simp <;> with_reducible rfl
    simp only [Act.put, List.setIfInBounds_toArray, List.set_cons_zero, List.set_cons_succ]
    refine wpAnyH_take (i := 2) (oi := ⟨some 6, _, _, _, _, _⟩) (v := ?v2) rfl (by kernel_rfl) (by kernel_rfl) (by kernel_rfl) (fun _ _ _ h => h) (Or.inl ⟨by rfl, ?hy2⟩) (by assumption) ?rest2
    case hy2 => intro w hSw; (try dsimp only at hSw); go_simp <;> with_reducible rfl
    simp only [Act.put, List.setIfInBounds_toArray, List.set_cons_zero, List.set_cons_succ]
    refine wpAnyH_take (i := 4) (oi := ⟨some 8, _, _, _, _, _⟩) (v := ?v3) rfl (by kernel_rfl) (by kernel_rfl) (by kernel_rfl) (fun _ _ _ h => h) (Or.inl ⟨by rfl, ?hy3⟩) (by assumption) ?rest3
    case hy3 => intro w hSw; (try dsimp only at hSw); go_simp <;> with_reducible rfl
    simp only [Act.put, List.setIfInBounds_toArray, List.set_cons_zero, List.set_cons_succ]
    refine wpAnyH_take (i := 6) (oi := ⟨some 10, _, _, _, _, _⟩) (v := ?v4) rfl (by kernel_rfl) (by kernel_rfl) (by kernel_rfl) (fun _ _ _ h => h) (Or.inl ⟨by rfl, ?hy4⟩) (by assumption) ?rest4
    case hy4 => intro w hSw; (try dsimp only at hSw); go_simp <;> with_reducible rfl
    simp only [Act.put, List.setIfInBounds_toArray, List.set_cons_zero, List.set_cons_succ]
    refine wpAnyH_ready (rs := [1, 9]) (by kernel_rfl) (by simp) ?_
    refine AllReadyH.cons rfl (fun K hK => ?_) (AllReadyH.cons rfl (fun K hK => ?_) AllReadyH.nil)
    · skip
      go_simp
      go_wp2_with fail
      refine (HC1.out _ HR0.out).mono ?_
      rintro en w1 ⟨rfl, hr1, hg1⟩
      have HR1 := hide_ hr1
      have HG1 := hide_ (grown_join HG0.out hg1)
      clear hr1 hg1
      refine hK.out _ _ (HKEEP.out _ HG1.out) (fun hHeld => ?_)
      clear hK K
      refine wpAnyH_ready (rs := [3, 9]) (by kernel_rfl) (by simp) ?_
      refine AllReadyH.cons rfl (fun K hK => ?_) (AllReadyH.cons rfl (fun K hK => ?_) AllReadyH.nil)
      · skip
        go_simp
        go_wp2_with fail
        refine (HC2.out _ HR1.out).mono ?_
        rintro en w2 ⟨rfl, hr2, hg2⟩
        have HR2 := hide_ hr2
        have HG2 := hide_ (grown_join HG1.out hg2)
        clear hr2 hg2
        refine hK.out _ _ (HKEEP.out _ HG2.out) (fun hHeld => ?_)
        clear hK K
        refine wpAnyH_ready (rs := [5, 9]) (by kernel_rfl) (by simp) ?_
        refine AllReadyH.cons rfl (fun K hK => ?_) (AllReadyH.cons rfl (fun K hK => ?_) AllReadyH.nil)
        · skip
          go_simp
          go_wp2_with fail
          refine (HC3.out _ HR2.out).mono ?_
          rintro en w3 ⟨rfl, hr3, hg3⟩
          have HR3 := hide_ hr3
          have HG3 := hide_ (grown_join HG2.out hg3)
          clear hr3 hg3
          refine hK.out _ _ (HKEEP.out _ HG3.out) (fun hHeld => ?_)
          clear hK K
          refine wpAnyH_ready (rs := [7, 9]) (by kernel_rfl) (by simp) ?_
          refine AllReadyH.cons rfl (fun K hK => ?_) (AllReadyH.cons rfl (fun K hK => ?_) AllReadyH.nil)
          · skip
            go_simp
            go_wp2_with fail
            refine (HC4.out _ HR3.out).mono ?_
            rintro en w4 ⟨rfl, hr4, hg4⟩
            have HR4 := hide_ hr4
            have HG4 := hide_ (grown_join HG3.out hg4)
            clear hr4 hg4
            refine hK.out _ _ (HKEEP.out _ HG4.out) (fun hHeld => ?_)
            clear hK K
            refine wpAnyH_take (i := 8) (oi := ⟨some 12, _, _, _, _, _⟩) (v := ?v5) rfl (by kernel_rfl) (by kernel_rfl) (by kernel_rfl) (fun _ _ _ h => h) (Or.inl ⟨by rfl, ?hy5⟩) (by assumption) ?rest5
            case hy5 => intro w hSw; (try dsimp only at hSw); go_simp <;> with_reducible rfl
            simp only [Act.put, List.setIfInBounds_toArray, List.set_cons_zero, List.set_cons_succ]
            refine wpAnyH_ready (rs := [9]) (by kernel_rfl) (by simp) ?_
            refine AllReadyH.cons rfl (fun K hK => ?_) AllReadyH.nil
            go_simp
            refine hK.out _ _ (HKEEP.out _ (grown_join HG4.out (World.grownBy_alloc _ _ _))) (fun hHeld => ?_)
            clear hK K
            have HTP := hide_ (BoxAt.new w4 #[.int .i64 0, .int .i64 0, .int .i64 0, .int .i64 0, .slice none 0 0, .slice none 0 0, .slice none 0 0] 40)
            have q0 := (HTP.out.cell 0).trans (show _ = some (.int .i64 0) from rfl)
            have f0 := HTP.out.frozen 0
            have q1 := (HTP.out.cell 1).trans (show _ = some (.int .i64 0) from rfl)
            have f1 := HTP.out.frozen 1
            have q2 := (HTP.out.cell 2).trans (show _ = some (.int .i64 0) from rfl)
            have f2 := HTP.out.frozen 2
            have q3 := (HTP.out.cell 3).trans (show _ = some (.int .i64 0) from rfl)
            have f3 := HTP.out.frozen 3
            have q4 := (HTP.out.cell 4).trans (show _ = some (.slice none 0 0) from rfl)
            have f4 := HTP.out.frozen 4
            have q5 := (HTP.out.cell 5).trans (show _ = some (.slice none 0 0) from rfl)
            have f5 := HTP.out.frozen 5
            have q6 := (HTP.out.cell 6).trans (show _ = some (.slice none 0 0) from rfl)
            have f6 := HTP.out.frozen 6
            refine wpAnyH_ready (rs := [10]) (by kernel_rfl) (by simp) ?_
            refine AllReadyH.cons rfl (fun K hK => ?_) AllReadyH.nil
            go_simp
            refine hK.out _ _ ?keep (fun hHeld => ?_)
            case keep => exact HKEEP.out _ (grown_join HG4.out (World.grownBy_alloc _ _ _))
            clear hK K
            refine wpAnyH_done (by kernel_rfl) ?_ _
            clear q0 f0 q1 f1 q2 f2 q3 f3 q4 f4 q5 f5 q6 f6
            go_wp2_with fail
            go_meet
            exact ⟨_, rfl, (by (have h := HG4.out.size); simp at h; omega), BoxAt.new _ _ _, HFAR.out _ _ _ _ _ (grown_join HG4.out (World.grownBy_alloc _ _ _)) HB0.out (by omega), HFAR.out _ _ _ _ _ (grown_join HG4.out (World.grownBy_alloc _ _ _)) HZ0.out (by omega), HR4.out.made _, grown_made (grown_made (grown_ndrew (grown_join HG4.out (World.grownBy_alloc _ _ _))))⟩
          · go_simp
            refine hK.out _ _ (HKEEP.out _ (grown_join HG3.out (World.grownBy_alloc _ _ _))) (fun hHeld => ?_)
            clear hK K
            refine wpAnyH_ready (rs := [7]) (by kernel_rfl) (by simp) ?_
            refine AllReadyH.cons rfl (fun K hK => ?_) AllReadyH.nil
            go_simp
            go_wp2_with fail
            refine (HC4.out _ (HR3.out.made (.cells #[.int .i64 0, .int .i64 0, .int .i64 0, .int .i64 0, .slice none 0 0, .slice none 0 0, .slice none 0 0] 40))).mono ?_
            rintro en w4 ⟨rfl, hr4, hg4⟩
            have HR4 := hide_ hr4
            have HG4 := hide_ (grown_join (grown_join HG3.out (World.grownBy_alloc w3 (.cells #[.int .i64 0, .int .i64 0, .int .i64 0, .int .i64 0, .slice none 0 0, .slice none 0 0, .slice none 0 0] 40) _)) hg4)
            have HL4 := hide_ HG3.out.size
            have HT4 := hide_ (HFAR.out _ _ _ _ _ hg4 (BoxAt.new w3 #[.int .i64 0, .int .i64 0, .int .i64 0, .int .i64 0, .slice none 0 0, .slice none 0 0, .slice none 0 0] 40) (by (have h := HL4.out); simp at h; omega))
            clear hr4 hg4
            refine hK.out _ _ (HKEEP.out _ HG4.out) (fun hHeld => ?_)
            clear hK K
            refine wpAnyH_take (i := 8) (oi := ⟨some 12, _, _, _, _, _⟩) (v := ?v6) rfl (by kernel_rfl) (by kernel_rfl) (by kernel_rfl) (fun _ _ _ h => h) (Or.inl ⟨by rfl, ?hy6⟩) (by assumption) ?rest6
            case hy6 => intro w hSw; (try dsimp only at hSw); go_simp <;> with_reducible rfl
            simp only [Act.put, List.setIfInBounds_toArray, List.set_cons_zero, List.set_cons_succ]
            have q0 := (HT4.out.cell 0).trans (show _ = some (.int .i64 0) from rfl)
            have f0 := HT4.out.frozen 0
            have q1 := (HT4.out.cell 1).trans (show _ = some (.int .i64 0) from rfl)
            have f1 := HT4.out.frozen 1
            have q2 := (HT4.out.cell 2).trans (show _ = some (.int .i64 0) from rfl)
            have f2 := HT4.out.frozen 2
            have q3 := (HT4.out.cell 3).trans (show _ = some (.int .i64 0) from rfl)
            have f3 := HT4.out.frozen 3
            have q4 := (HT4.out.cell 4).trans (show _ = some (.slice none 0 0) from rfl)
            have f4 := HT4.out.frozen 4
            have q5 := (HT4.out.cell 5).trans (show _ = some (.slice none 0 0) from rfl)
            have f5 := HT4.out.frozen 5
            have q6 := (HT4.out.cell 6).trans (show _ = some (.slice none 0 0) from rfl)
            have f6 := HT4.out.frozen 6
            refine wpAnyH_ready (rs := [10]) (by kernel_rfl) (by simp) ?_
            refine AllReadyH.cons rfl (fun K hK => ?_) AllReadyH.nil
            go_simp
            refine hK.out _ _ ?keep (fun hHeld => ?_)
            case keep => exact HKEEP.out _ (grown_stored (grown_stored (grown_stored (grown_stored (grown_stored (grown_stored (grown_stored HG4.out HL4.out) HL4.out) HL4.out) HL4.out) HL4.out) HL4.out) HL4.out)
            clear hK K
            refine wpAnyH_done (by kernel_rfl) ?_ _
            clear q0 f0 q1 f1 q2 f2 q3 f3 q4 f4 q5 f5 q6 f6
            go_wp2_with fail
            go_meet
            have htf := (heap_set 6 (.slice none 0 0) (heap_set 5 (.slice none 0 0) (heap_set 4 (.slice none 0 0) (heap_set 3 (.int .i64 n4) (heap_set 2 (.int .i64 n3) (heap_set 1 (.int .i64 n2) (heap_set 0 (.int .i64 n1) HT4.out)))))))
            simp only [List.setIfInBounds_toArray, List.set_cons_zero, List.set_cons_succ] at htf
            exact ⟨_, rfl, (by (have h := HL4.out); simp at h; omega), htf, HFAR.out _ _ _ _ _ (grown_stored (grown_stored (grown_stored (grown_stored (grown_stored (grown_stored (grown_stored HG4.out HL4.out) HL4.out) HL4.out) HL4.out) HL4.out) HL4.out) HL4.out) HB0.out (by omega), HFAR.out _ _ _ _ _ (grown_stored (grown_stored (grown_stored (grown_stored (grown_stored (grown_stored (grown_stored HG4.out HL4.out) HL4.out) HL4.out) HL4.out) HL4.out) HL4.out) HL4.out) HZ0.out (by omega), (((((((HR4.out.stored (by (have h := HL4.out); simp at h; omega)).stored (by (have h := HL4.out); simp at h; omega)).stored (by (have h := HL4.out); simp at h; omega)).stored (by (have h := HL4.out); simp at h; omega)).stored (by (have h := HL4.out); simp at h; omega)).stored (by (have h := HL4.out); simp at h; omega)).stored (by (have h := HL4.out); simp at h; omega)), grown_made (grown_made (grown_ndrew (grown_stored (grown_stored (grown_stored (grown_stored (grown_stored (grown_stored (grown_stored HG4.out HL4.out) HL4.out) HL4.out) HL4.out) HL4.out) HL4.out) HL4.out)))⟩
        · go_simp
          refine hK.out _ _ (HKEEP.out _ (grown_join HG2.out (World.grownBy_alloc _ _ _))) (fun hHeld => ?_)
          clear hK K
          refine wpAnyH_ready (rs := [5]) (by kernel_rfl) (by simp) ?_
          refine AllReadyH.cons rfl (fun K hK => ?_) AllReadyH.nil
          go_simp
          go_wp2_with fail
          refine (HC3.out _ (HR2.out.made (.cells #[.int .i64 0, .int .i64 0, .int .i64 0, .int .i64 0, .slice none 0 0, .slice none 0 0, .slice none 0 0] 40))).mono ?_
          rintro en w3 ⟨rfl, hr3, hg3⟩
          have HR3 := hide_ hr3
          have HG3 := hide_ (grown_join (grown_join HG2.out (World.grownBy_alloc w2 (.cells #[.int .i64 0, .int .i64 0, .int .i64 0, .int .i64 0, .slice none 0 0, .slice none 0 0, .slice none 0 0] 40) _)) hg3)
          have HL3 := hide_ HG2.out.size
          have HT3 := hide_ (HFAR.out _ _ _ _ _ hg3 (BoxAt.new w2 #[.int .i64 0, .int .i64 0, .int .i64 0, .int .i64 0, .slice none 0 0, .slice none 0 0, .slice none 0 0] 40) (by (have h := HL3.out); simp at h; omega))
          clear hr3 hg3
          refine hK.out _ _ (HKEEP.out _ HG3.out) (fun hHeld => ?_)
          clear hK K
          refine wpAnyH_ready (rs := [7]) (by kernel_rfl) (by simp) ?_
          refine AllReadyH.cons rfl (fun K hK => ?_) AllReadyH.nil
          go_simp
          go_wp2_with fail
          refine (HC4.out _ HR3.out).mono ?_
          rintro en w4 ⟨rfl, hr4, hg4⟩
          have HR4 := hide_ hr4
          have HG4 := hide_ (grown_join HG3.out hg4)
          have HL4 := hide_ HL3.out
          have HT4 := hide_ (HFAR.out _ _ _ _ _ hg4 HT3.out (by (have h := HL4.out); simp at h; omega))
          clear hr4 hg4
          refine hK.out _ _ (HKEEP.out _ HG4.out) (fun hHeld => ?_)
          clear hK K
          refine wpAnyH_take (i := 8) (oi := ⟨some 12, _, _, _, _, _⟩) (v := ?v7) rfl (by kernel_rfl) (by kernel_rfl) (by kernel_rfl) (fun _ _ _ h => h) (Or.inl ⟨by rfl, ?hy7⟩) (by assumption) ?rest7
          case hy7 => intro w hSw; (try dsimp only at hSw); go_simp <;> with_reducible rfl
          simp only [Act.put, List.setIfInBounds_toArray, List.set_cons_zero, List.set_cons_succ]
          have q0 := (HT4.out.cell 0).trans (show _ = some (.int .i64 0) from rfl)
          have f0 := HT4.out.frozen 0
          have q1 := (HT4.out.cell 1).trans (show _ = some (.int .i64 0) from rfl)
          have f1 := HT4.out.frozen 1
          have q2 := (HT4.out.cell 2).trans (show _ = some (.int .i64 0) from rfl)
          have f2 := HT4.out.frozen 2
          have q3 := (HT4.out.cell 3).trans (show _ = some (.int .i64 0) from rfl)
          have f3 := HT4.out.frozen 3
          have q4 := (HT4.out.cell 4).trans (show _ = some (.slice none 0 0) from rfl)
          have f4 := HT4.out.frozen 4
          have q5 := (HT4.out.cell 5).trans (show _ = some (.slice none 0 0) from rfl)
          have f5 := HT4.out.frozen 5
          have q6 := (HT4.out.cell 6).trans (show _ = some (.slice none 0 0) from rfl)
          have f6 := HT4.out.frozen 6
          refine wpAnyH_ready (rs := [10]) (by kernel_rfl) (by simp) ?_
          refine AllReadyH.cons rfl (fun K hK => ?_) AllReadyH.nil
          go_simp
          refine hK.out _ _ ?keep (fun hHeld => ?_)
          case keep => exact HKEEP.out _ (grown_stored (grown_stored (grown_stored (grown_stored (grown_stored (grown_stored (grown_stored HG4.out HL4.out) HL4.out) HL4.out) HL4.out) HL4.out) HL4.out) HL4.out)
          clear hK K
          refine wpAnyH_done (by kernel_rfl) ?_ _
          clear q0 f0 q1 f1 q2 f2 q3 f3 q4 f4 q5 f5 q6 f6
          go_wp2_with fail
          go_meet
          have htf := (heap_set 6 (.slice none 0 0) (heap_set 5 (.slice none 0 0) (heap_set 4 (.slice none 0 0) (heap_set 3 (.int .i64 n4) (heap_set 2 (.int .i64 n3) (heap_set 1 (.int .i64 n2) (heap_set 0 (.int .i64 n1) HT4.out)))))))
          simp only [List.setIfInBounds_toArray, List.set_cons_zero, List.set_cons_succ] at htf
          exact ⟨_, rfl, (by (have h := HL4.out); simp at h; omega), htf, HFAR.out _ _ _ _ _ (grown_stored (grown_stored (grown_stored (grown_stored (grown_stored (grown_stored (grown_stored HG4.out HL4.out) HL4.out) HL4.out) HL4.out) HL4.out) HL4.out) HL4.out) HB0.out (by omega), HFAR.out _ _ _ _ _ (grown_stored (grown_stored (grown_stored (grown_stored (grown_stored (grown_stored (grown_stored HG4.out HL4.out) HL4.out) HL4.out) HL4.out) HL4.out) HL4.out) HL4.out) HZ0.out (by omega), (((((((HR4.out.stored (by (have h := HL4.out); simp at h; omega)).stored (by (have h := HL4.out); simp at h; omega)).stored (by (have h := HL4.out); simp at h; omega)).stored (by (have h := HL4.out); simp at h; omega)).stored (by (have h := HL4.out); simp at h; omega)).stored (by (have h := HL4.out); simp at h; omega)).stored (by (have h := HL4.out); simp at h; omega)), grown_made (grown_made (grown_ndrew (grown_stored (grown_stored (grown_stored (grown_stored (grown_stored (grown_stored (grown_stored HG4.out HL4.out) HL4.out) HL4.out) HL4.out) HL4.out) HL4.out) HL4.out)))⟩
      · go_simp
        refine hK.out _ _ (HKEEP.out _ (grown_join HG1.out (World.grownBy_alloc _ _ _))) (fun hHeld => ?_)
        clear hK K
        refine wpAnyH_ready (rs := [3]) (by kernel_rfl) (by simp) ?_
        refine AllReadyH.cons rfl (fun K hK => ?_) AllReadyH.nil
        go_simp
        go_wp2_with fail
        refine (HC2.out _ (HR1.out.made (.cells #[.int .i64 0, .int .i64 0, .int .i64 0, .int .i64 0, .slice none 0 0, .slice none 0 0, .slice none 0 0] 40))).mono ?_
        rintro en w2 ⟨rfl, hr2, hg2⟩
        have HR2 := hide_ hr2
        have HG2 := hide_ (grown_join (grown_join HG1.out (World.grownBy_alloc w1 (.cells #[.int .i64 0, .int .i64 0, .int .i64 0, .int .i64 0, .slice none 0 0, .slice none 0 0, .slice none 0 0] 40) _)) hg2)
        have HL2 := hide_ HG1.out.size
        have HT2 := hide_ (HFAR.out _ _ _ _ _ hg2 (BoxAt.new w1 #[.int .i64 0, .int .i64 0, .int .i64 0, .int .i64 0, .slice none 0 0, .slice none 0 0, .slice none 0 0] 40) (by (have h := HL2.out); simp at h; omega))
        clear hr2 hg2
        refine hK.out _ _ (HKEEP.out _ HG2.out) (fun hHeld => ?_)
        clear hK K
        refine wpAnyH_ready (rs := [5]) (by kernel_rfl) (by simp) ?_
        refine AllReadyH.cons rfl (fun K hK => ?_) AllReadyH.nil
        go_simp
        go_wp2_with fail
        refine (HC3.out _ HR2.out).mono ?_
        rintro en w3 ⟨rfl, hr3, hg3⟩
        have HR3 := hide_ hr3
        have HG3 := hide_ (grown_join HG2.out hg3)
        have HL3 := hide_ HL2.out
        have HT3 := hide_ (HFAR.out _ _ _ _ _ hg3 HT2.out (by (have h := HL3.out); simp at h; omega))
        clear hr3 hg3
        refine hK.out _ _ (HKEEP.out _ HG3.out) (fun hHeld => ?_)
        clear hK K
        refine wpAnyH_ready (rs := [7]) (by kernel_rfl) (by simp) ?_
        refine AllReadyH.cons rfl (fun K hK => ?_) AllReadyH.nil
        go_simp
        go_wp2_with fail
        refine (HC4.out _ HR3.out).mono ?_
        rintro en w4 ⟨rfl, hr4, hg4⟩
        have HR4 := hide_ hr4
        have HG4 := hide_ (grown_join HG3.out hg4)
        have HL4 := hide_ HL3.out
        have HT4 := hide_ (HFAR.out _ _ _ _ _ hg4 HT3.out (by (have h := HL4.out); simp at h; omega))
        clear hr4 hg4
        refine hK.out _ _ (HKEEP.out _ HG4.out) (fun hHeld => ?_)
        clear hK K
        refine wpAnyH_take (i := 8) (oi := ⟨some 12, _, _, _, _, _⟩) (v := ?v8) rfl (by kernel_rfl) (by kernel_rfl) (by kernel_rfl) (fun _ _ _ h => h) (Or.inl ⟨by rfl, ?hy8⟩) (by assumption) ?rest8
        case hy8 => intro w hSw; (try dsimp only at hSw); go_simp <;> with_reducible rfl
        simp only [Act.put, List.setIfInBounds_toArray, List.set_cons_zero, List.set_cons_succ]
        have q0 := (HT4.out.cell 0).trans (show _ = some (.int .i64 0) from rfl)
        have f0 := HT4.out.frozen 0
        have q1 := (HT4.out.cell 1).trans (show _ = some (.int .i64 0) from rfl)
        have f1 := HT4.out.frozen 1
        have q2 := (HT4.out.cell 2).trans (show _ = some (.int .i64 0) from rfl)
        have f2 := HT4.out.frozen 2
        have q3 := (HT4.out.cell 3).trans (show _ = some (.int .i64 0) from rfl)
        have f3 := HT4.out.frozen 3
        have q4 := (HT4.out.cell 4).trans (show _ = some (.slice none 0 0) from rfl)
        have f4 := HT4.out.frozen 4
        have q5 := (HT4.out.cell 5).trans (show _ = some (.slice none 0 0) from rfl)
        have f5 := HT4.out.frozen 5
        have q6 := (HT4.out.cell 6).trans (show _ = some (.slice none 0 0) from rfl)
        have f6 := HT4.out.frozen 6
        refine wpAnyH_ready (rs := [10]) (by kernel_rfl) (by simp) ?_
        refine AllReadyH.cons rfl (fun K hK => ?_) AllReadyH.nil
        go_simp
        refine hK.out _ _ ?keep (fun hHeld => ?_)
        case keep => exact HKEEP.out _ (grown_stored (grown_stored (grown_stored (grown_stored (grown_stored (grown_stored (grown_stored HG4.out HL4.out) HL4.out) HL4.out) HL4.out) HL4.out) HL4.out) HL4.out)
        clear hK K
        refine wpAnyH_done (by kernel_rfl) ?_ _
        clear q0 f0 q1 f1 q2 f2 q3 f3 q4 f4 q5 f5 q6 f6
        go_wp2_with fail
        go_meet
        have htf := (heap_set 6 (.slice none 0 0) (heap_set 5 (.slice none 0 0) (heap_set 4 (.slice none 0 0) (heap_set 3 (.int .i64 n4) (heap_set 2 (.int .i64 n3) (heap_set 1 (.int .i64 n2) (heap_set 0 (.int .i64 n1) HT4.out)))))))
        simp only [List.setIfInBounds_toArray, List.set_cons_zero, List.set_cons_succ] at htf
        exact ⟨_, rfl, (by (have h := HL4.out); simp at h; omega), htf, HFAR.out _ _ _ _ _ (grown_stored (grown_stored (grown_stored (grown_stored (grown_stored (grown_stored (grown_stored HG4.out HL4.out) HL4.out) HL4.out) HL4.out) HL4.out) HL4.out) HL4.out) HB0.out (by omega), HFAR.out _ _ _ _ _ (grown_stored (grown_stored (grown_stored (grown_stored (grown_stored (grown_stored (grown_stored HG4.out HL4.out) HL4.out) HL4.out) HL4.out) HL4.out) HL4.out) HL4.out) HZ0.out (by omega), (((((((HR4.out.stored (by (have h := HL4.out); simp at h; omega)).stored (by (have h := HL4.out); simp at h; omega)).stored (by (have h := HL4.out); simp at h; omega)).stored (by (have h := HL4.out); simp at h; omega)).stored (by (have h := HL4.out); simp at h; omega)).stored (by (have h := HL4.out); simp at h; omega)).stored (by (have h := HL4.out); simp at h; omega)), grown_made (grown_made (grown_ndrew (grown_stored (grown_stored (grown_stored (grown_stored (grown_stored (grown_stored (grown_stored HG4.out HL4.out) HL4.out) HL4.out) HL4.out) HL4.out) HL4.out) HL4.out)))⟩
    · go_simp
      refine hK.out _ _ (HKEEP.out _ HG0A.out) (fun hHeld => ?_)
      clear hK K
      refine wpAnyH_ready (rs := [1]) (by kernel_rfl) (by simp) ?_
      refine AllReadyH.cons rfl (fun K hK => ?_) AllReadyH.nil
      go_simp
      go_wp2_with fail
      refine (HC1.out _ HR0A.out).mono ?_
      rintro en w1 ⟨rfl, hr1, hg1⟩
      have HR1 := hide_ hr1
      have HG1 := hide_ (grown_join HG0A.out hg1)
      have HL1 := hide_ (show ((w.alloc (.cells #[.pointer (some ⟨g, 0, none⟩)] 85)).alloc (.cells #[.int .i64 0, .int .i64 0, .int .i64 0, .int .i64 0, .slice none 0 0, .slice none 0 0, .slice none 0 0] 40)).drew.heap.size ≤ w.heap.size + 1 + 1 by simp)
      have HT1 := hide_ (HFAR.out _ _ _ _ _ hg1 HT0.out (by (have h := HL1.out); simp at h; omega))
      clear hr1 hg1
      refine hK.out _ _ (HKEEP.out _ HG1.out) (fun hHeld => ?_)
      clear hK K
      refine wpAnyH_ready (rs := [3]) (by kernel_rfl) (by simp) ?_
      refine AllReadyH.cons rfl (fun K hK => ?_) AllReadyH.nil
      go_simp
      go_wp2_with fail
      refine (HC2.out _ HR1.out).mono ?_
      rintro en w2 ⟨rfl, hr2, hg2⟩
      have HR2 := hide_ hr2
      have HG2 := hide_ (grown_join HG1.out hg2)
      have HL2 := hide_ HL1.out
      have HT2 := hide_ (HFAR.out _ _ _ _ _ hg2 HT1.out (by (have h := HL2.out); simp at h; omega))
      clear hr2 hg2
      refine hK.out _ _ (HKEEP.out _ HG2.out) (fun hHeld => ?_)
      clear hK K
      refine wpAnyH_ready (rs := [5]) (by kernel_rfl) (by simp) ?_
      refine AllReadyH.cons rfl (fun K hK => ?_) AllReadyH.nil
      go_simp
      go_wp2_with fail
      refine (HC3.out _ HR2.out).mono ?_
      rintro en w3 ⟨rfl, hr3, hg3⟩
      have HR3 := hide_ hr3
      have HG3 := hide_ (grown_join HG2.out hg3)
      have HL3 := hide_ HL2.out
      have HT3 := hide_ (HFAR.out _ _ _ _ _ hg3 HT2.out (by (have h := HL3.out); simp at h; omega))
      clear hr3 hg3
      refine hK.out _ _ (HKEEP.out _ HG3.out) (fun hHeld => ?_)
      clear hK K
      refine wpAnyH_ready (rs := [7]) (by kernel_rfl) (by simp) ?_
      refine AllReadyH.cons rfl (fun K hK => ?_) AllReadyH.nil
      go_simp
      go_wp2_with fail
      refine (HC4.out _ HR3.out).mono ?_
      rintro en w4 ⟨rfl, hr4, hg4⟩
      have HR4 := hide_ hr4
      have HG4 := hide_ (grown_join HG3.out hg4)
      have HL4 := hide_ HL3.out
      have HT4 := hide_ (HFAR.out _ _ _ _ _ hg4 HT3.out (by (have h := HL4.out); simp at h; omega))
      clear hr4 hg4
      refine hK.out _ _ (HKEEP.out _ HG4.out) (fun hHeld => ?_)
      clear hK K
      refine wpAnyH_take (i := 8) (oi := ⟨some 12, _, _, _, _, _⟩) (v := ?v9) rfl (by kernel_rfl) (by kernel_rfl) (by kernel_rfl) (fun _ _ _ h => h) (Or.inl ⟨by rfl, ?hy9⟩) (by assumption) ?rest9
      case hy9 => intro w hSw; (try dsimp only at hSw); go_simp <;> with_reducible rfl
      simp only [Act.put, List.setIfInBounds_toArray, List.set_cons_zero, List.set_cons_succ]
      have q0 := (HT4.out.cell 0).trans (show _ = some (.int .i64 0) from rfl)
      have f0 := HT4.out.frozen 0
      have q1 := (HT4.out.cell 1).trans (show _ = some (.int .i64 0) from rfl)
      have f1 := HT4.out.frozen 1
      have q2 := (HT4.out.cell 2).trans (show _ = some (.int .i64 0) from rfl)
      have f2 := HT4.out.frozen 2
      have q3 := (HT4.out.cell 3).trans (show _ = some (.int .i64 0) from rfl)
      have f3 := HT4.out.frozen 3
      have q4 := (HT4.out.cell 4).trans (show _ = some (.slice none 0 0) from rfl)
      have f4 := HT4.out.frozen 4
      have q5 := (HT4.out.cell 5).trans (show _ = some (.slice none 0 0) from rfl)
      have f5 := HT4.out.frozen 5
      have q6 := (HT4.out.cell 6).trans (show _ = some (.slice none 0 0) from rfl)
      have f6 := HT4.out.frozen 6
      refine wpAnyH_ready (rs := [10]) (by kernel_rfl) (by simp) ?_
      refine AllReadyH.cons rfl (fun K hK => ?_) AllReadyH.nil
      go_simp
      refine hK.out _ _ ?keep (fun hHeld => ?_)
      case keep => exact HKEEP.out _ (grown_stored (grown_stored (grown_stored (grown_stored (grown_stored (grown_stored (grown_stored HG4.out HL4.out) HL4.out) HL4.out) HL4.out) HL4.out) HL4.out) HL4.out)
      clear hK K
      refine wpAnyH_done (by kernel_rfl) ?_ _
      clear q0 f0 q1 f1 q2 f2 q3 f3 q4 f4 q5 f5 q6 f6
      go_wp2_with fail
      go_meet
      have htf := (heap_set 6 (.slice none 0 0) (heap_set 5 (.slice none 0 0) (heap_set 4 (.slice none 0 0) (heap_set 3 (.int .i64 n4) (heap_set 2 (.int .i64 n3) (heap_set 1 (.int .i64 n2) (heap_set 0 (.int .i64 n1) HT4.out)))))))
      simp only [List.setIfInBounds_toArray, List.set_cons_zero, List.set_cons_succ] at htf
      exact ⟨_, rfl, (by (have h := HL4.out); simp at h; omega), htf, HFAR.out _ _ _ _ _ (grown_stored (grown_stored (grown_stored (grown_stored (grown_stored (grown_stored (grown_stored HG4.out HL4.out) HL4.out) HL4.out) HL4.out) HL4.out) HL4.out) HL4.out) HB0.out (by omega), HFAR.out _ _ _ _ _ (grown_stored (grown_stored (grown_stored (grown_stored (grown_stored (grown_stored (grown_stored HG4.out HL4.out) HL4.out) HL4.out) HL4.out) HL4.out) HL4.out) HL4.out) HZ0.out (by omega), (((((((HR4.out.stored (by (have h := HL4.out); simp at h; omega)).stored (by (have h := HL4.out); simp at h; omega)).stored (by (have h := HL4.out); simp at h; omega)).stored (by (have h := HL4.out); simp at h; omega)).stored (by (have h := HL4.out); simp at h; omega)).stored (by (have h := HL4.out); simp at h; omega)).stored (by (have h := HL4.out); simp at h; omega)), grown_made (grown_made (grown_ndrew (grown_stored (grown_stored (grown_stored (grown_stored (grown_stored (grown_stored (grown_stored HG4.out HL4.out) HL4.out) HL4.out) HL4.out) HL4.out) HL4.out) HL4.out)))⟩
  case rest =>
    obtain ⟨b, rfl, hb2, HT, HB, HZ, HR, HG⟩ := hcut
    have HMF := hide_ (fun (u : World) (hr : Rdr u g s4.1 s4.2) => formula5_any hr HKN.out)
    have HMS := hide_ (fun (u : World) (hr : Rdr u g s5.1 s5.2) => manySet5_any (w := u) 8 (by omega) SetM.bare 115 #[takerV g] #[] setS hr HK5.out (fun _ h => setS_ok h) (fun _ _ => rfl) (fun w1 s1 _ hr hs1 => set5_any hr hs1))
    have HME := hide_ (fun (u : World) (hr : Rdr u g s6.1 s6.2) => manyEmit5_any (w := u) 4 (by omega) EmM.bare 117 #[takerV g] #[] emS hr HK6.out (fun _ h => emS_ok h) (fun _ _ => rfl) (fun w1 s1 _ hr hs1 => emit5_any hr hs1))
    simp only [HM1.out] at HMF
    simp only [HM2.out] at HMS
    simp only [HM3.out] at HME
    unfold takerV at HMF HMS HME
    clear HP HG0 HR0 HR0A HG0A HB0 HZ0 HT0 HBX HKEEP HC1 HC2 HC3 HC4
    have hzb : b < wc.heap.size := HT.out.lt
    have hgb : g < b := by omega
    have hzl : w.heap.size + 1 < b := by omega
    have hzw : w.heap.size < b := by omega
    have hcx := HB.out.cell
    go_wp2_with fail
    refine (HMF.out _ HR.out).mono ?_
    rintro en w5 ⟨x, rfl, hp, ho, hl, hr, hg⟩
    have HPF := hide_ hp
    have HOF := hide_ ho
    have HLF := hide_ hl
    have HR5 := hide_ hr
    have HG5 := hide_ (grown_join HG.out hg)
    have HT5 := hide_ (HFAR.out _ _ _ _ _ hg HT.out (by omega))
    have HZ5 := hide_ (HFAR.out _ _ _ _ _ hg HZ.out (by omega))
    have HB5 := hide_ (HFAR.out _ _ _ _ _ hg HB.out (by omega))
    clear hp ho hl hr hg hcx
    obtain ⟨xA, xc, xl⟩ := x
    simp only [Sl.v]
    have hzb5 : b < w5.heap.size := HT5.out.lt
    have hcx := HB5.out.cell
    have q4 := (HT5.out.cell 4).trans (show _ = some (Value.slice none 0 0) from rfl)
    have f4 := HT5.out.frozen 4
    go_wp2_with fail
    clear q4 f4 hcx
    have HX5 := hide_ (show BoxAt (w5.setCell ⟨b, 4, none⟩ (.slice xA xl.length xc)) b #[.int .i64 n1, .int .i64 n2, .int .i64 n3, .int .i64 n4, .slice xA xl.length xc, .slice none 0 0, .slice none 0 0] 40 from heap_set 4 _ HT5.out)
    have HY5 := hide_ (show BoxAt (w5.setCell ⟨b, 4, none⟩ (.slice xA xl.length xc)) (w.heap.size + 1) _ 40 from (Below.heap_setCell _ ⟨b, 4, none⟩ _ _ (by show w.heap.size + 1 ≠ b; omega)).trans HZ5.out)
    have HW5 := hide_ (show BoxAt (w5.setCell ⟨b, 4, none⟩ (.slice xA xl.length xc)) w.heap.size _ 85 from (Below.heap_setCell _ ⟨b, 4, none⟩ _ _ (by show w.heap.size ≠ b; omega)).trans HB5.out)
    have HOF5 := hide_ (keep_stored toks_local (z := b) (i := 4) (v := .slice xA xl.length xc) HOF.out HLF.out hzb)
    have HG5' := hide_ (grown_stored (b := b) (i := 4) (v := .slice xA xl.length xc) HG5.out (by omega))
    refine (HMS.out _ (HR5.out.stored hgb)).mono ?_
    rintro en w6 ⟨y, rfl, hp, ho, hl, hr, hg⟩
    have HPS := hide_ hp
    have HOS := hide_ ho
    have HLS := hide_ hl
    have HR6 := hide_ hr
    have HG6 := hide_ (grown_join HG5'.out hg)
    have HSZ6 := hide_ hg.size
    have HT6 := hide_ (HFAR.out _ _ _ _ _ hg HX5.out (by omega))
    have HZ6 := hide_ (HFAR.out _ _ _ _ _ hg HY5.out (by omega))
    have HB6 := hide_ (HFAR.out _ _ _ _ _ hg HW5.out (by omega))
    have HOF6 := hide_ (toks_local.grown HOF5.out hg (fun k hk e => by have := (HLF.out k hk).1; injection e with e; omega))
    clear hp ho hl hr hg
    obtain ⟨yA, yc, yl⟩ := y
    simp only [Sl.v]
    have hzb6 : b < w6.heap.size := HT6.out.lt
    have hlo6 : b < (w5.setCell ⟨b, 4, none⟩ (.slice xA xl.length xc)).heap.size := HX5.out.lt
    have HLO6 := hide_ hlo6
    clear hlo6
    have hcx := HB6.out.cell
    have q5 := (HT6.out.cell 5).trans (show _ = some (Value.slice none 0 0) from rfl)
    have f5 := HT6.out.frozen 5
    go_wp2_with fail
    clear q5 f5 hcx
    have HX6 := hide_ (show BoxAt (w6.setCell ⟨b, 5, none⟩ (.slice yA yl.length yc)) b #[.int .i64 n1, .int .i64 n2, .int .i64 n3, .int .i64 n4, .slice xA xl.length xc, .slice yA yl.length yc, .slice none 0 0] 40 from heap_set 5 _ HT6.out)
    have HY6 := hide_ (show BoxAt (w6.setCell ⟨b, 5, none⟩ (.slice yA yl.length yc)) (w.heap.size + 1) _ 40 from (Below.heap_setCell _ ⟨b, 5, none⟩ _ _ (by show w.heap.size + 1 ≠ b; omega)).trans HZ6.out)
    have HOF7 := hide_ (keep_stored toks_local (z := b) (i := 5) (v := .slice yA yl.length yc) HOF6.out HLF.out hzb)
    have HOS7 := hide_ (keep_stored sets_local (z := b) (i := 5) (v := .slice yA yl.length yc) HOS.out HLS.out HLO6.out)
    have HG6' := hide_ (grown_stored (b := b) (i := 5) (v := .slice yA yl.length yc) HG6.out (by omega))
    refine (HME.out _ (HR6.out.stored hgb)).mono ?_
    rintro en w7 ⟨z, rfl, hp, ho, hl, hr, hg⟩
    have HPE := hide_ hp
    have HOE := hide_ ho
    have HLE := hide_ hl
    have HR7 := hide_ hr
    have HG7 := hide_ (grown_join HG6'.out hg)
    have HSZ7 := hide_ hg.size
    have HT7 := hide_ (HFAR.out _ _ _ _ _ hg HX6.out (by omega))
    have HZ7 := hide_ (HFAR.out _ _ _ _ _ hg HY6.out (by omega))
    have HOF8 := hide_ (toks_local.grown HOF7.out hg (fun k hk e => by have := (HLF.out k hk).1; injection e with e; omega))
    have HOS8 := hide_ (sets_local.grown HOS7.out hg (fun k hk e => by have := (HLS.out k hk).1; have := HLO6.out; injection e with e; omega))
    have HLO7 := hide_ (show b < (w6.setCell ⟨b, 5, none⟩ (.slice yA yl.length yc)).heap.size from HX6.out.lt)
    clear hp ho hl hr hg
    obtain ⟨zA, zc, zl⟩ := z
    simp only [Sl.v]
    have hzb7 : b < w7.heap.size := HT7.out.lt
    have q0 := (HT7.out.cell 0).trans (show _ = some (Value.int .i64 n1) from rfl)
    have q1 := (HT7.out.cell 1).trans (show _ = some (Value.int .i64 n2) from rfl)
    have q2 := (HT7.out.cell 2).trans (show _ = some (Value.int .i64 n3) from rfl)
    have q3 := (HT7.out.cell 3).trans (show _ = some (Value.int .i64 n4) from rfl)
    have q4 := (HT7.out.cell 4).trans (show _ = some (Value.slice xA xl.length xc) from rfl)
    have q5 := (HT7.out.cell 5).trans (show _ = some (Value.slice yA yl.length yc) from rfl)
    have q6 := (HT7.out.cell 6).trans (show _ = some (Value.slice none 0 0) from rfl)
    have f6 := HT7.out.frozen 6
    have r0 := (HZ7.out.cell 0).trans (show _ = some (Value.int .i64 0) from rfl)
    have r1 := (HZ7.out.cell 1).trans (show _ = some (Value.int .i64 0) from rfl)
    have r2 := (HZ7.out.cell 2).trans (show _ = some (Value.int .i64 0) from rfl)
    have r3 := (HZ7.out.cell 3).trans (show _ = some (Value.int .i64 0) from rfl)
    have r4 := (HZ7.out.cell 4).trans (show _ = some (Value.slice none 0 0) from rfl)
    have r5 := (HZ7.out.cell 5).trans (show _ = some (Value.slice none 0 0) from rfl)
    have r6 := (HZ7.out.cell 6).trans (show _ = some (Value.slice none 0 0) from rfl)
    have g0 := HZ7.out.frozen 0
    have g1 := HZ7.out.frozen 1
    have g2 := HZ7.out.frozen 2
    have g3 := HZ7.out.frozen 3
    have g4 := HZ7.out.frozen 4
    have g5 := HZ7.out.frozen 5
    have g6 := HZ7.out.frozen 6
    go_wp2
    refine bodyPost_ret (v := .agg #[.int .i64 n1, .int .i64 n2, .int .i64 n3, .int .i64 n4, .slice xA xl.length xc, .slice yA yl.length yc, .slice zA zl.length zc]) (by simp [results, Try.results78, go_sem, r0, r1, r2, r3, r4, r5, r6]) rfl ?_
    clear q0 q1 q2 q3 q4 q5 q6 f6 r0 r1 r2 r3 r4 r5 r6 g0 g1 g2 g3 g4 g5 g6
    have hlo5 : w.heap.size + 1 < wc.heap.size := by omega
    have hlo6 : w.heap.size + 1 < (w5.setCell ⟨b, 4, none⟩ (.slice xA xl.length xc)).heap.size := by have := HLO6.out; omega
    have hlo7 : w.heap.size + 1 < (w6.setCell ⟨b, 5, none⟩ (.slice yA yl.length yc)).heap.size := by have := HLO7.out; omega
    have I : ∀ n : Nat, n ≤ 1000 → I64 (n : Int) := fun n h => by unfold I64; simp; omega
    refine ⟨⟨n1, n2, n3, n4, ⟨xA, xc, xl⟩, ⟨yA, yc, yl⟩, ⟨zA, zc, zl⟩⟩, rfl, by unfold RuM.bare; rw [← HPF.out, ← HPS.out, ← HPE.out], ⟨⟨I _ HB1.out, I _ HB2.out, I _ HB3.out, I _ HB4.out⟩, ?_, ?_, ?_⟩, ?_, ?_, ?_⟩
    · exact keep_stored toks_local (keep_stored toks_local (keep_stored toks_local (keep_stored toks_local (keep_stored toks_local (keep_stored toks_local (keep_stored toks_local (keep_stored toks_local HOF8.out HLF.out hzb) HLF.out hlo5) HLF.out hlo5) HLF.out hlo5) HLF.out hlo5) HLF.out hlo5) HLF.out hlo5) HLF.out hlo5
    · exact keep_stored sets_local (keep_stored sets_local (keep_stored sets_local (keep_stored sets_local (keep_stored sets_local (keep_stored sets_local (keep_stored sets_local (keep_stored sets_local HOS8.out HLS.out HLO6.out) HLS.out hlo6) HLS.out hlo6) HLS.out hlo6) HLS.out hlo6) HLS.out hlo6) HLS.out hlo6) HLS.out hlo6
    · exact keep_stored ems_local (keep_stored ems_local (keep_stored ems_local (keep_stored ems_local (keep_stored ems_local (keep_stored ems_local (keep_stored ems_local (keep_stored ems_local HOE.out HLE.out HLO7.out) HLE.out hlo7) HLE.out hlo7) HLE.out hlo7) HLE.out hlo7) HLE.out hlo7) HLE.out hlo7) HLE.out hlo7
    · intro k hk
      have hz := HG7.out.size
      have hz5 := HG5'.out.size
      have hz6 := HG6'.out.size
      have hz0 := HG.out.size
      have e7 : w7.heap.size = ((((((((w7.setCell ⟨b, 6, none⟩ (.slice zA zl.length zc)).setCell ⟨w.heap.size + 1, 0, none⟩ (.int .i64 n1)).setCell ⟨w.heap.size + 1, 1, none⟩ (.int .i64 n2)).setCell ⟨w.heap.size + 1, 2, none⟩ (.int .i64 n3)).setCell ⟨w.heap.size + 1, 3, none⟩ (.int .i64 n4)).setCell ⟨w.heap.size + 1, 4, none⟩ (.slice xA xl.length xc)).setCell ⟨w.heap.size + 1, 5, none⟩ (.slice yA yl.length yc)).setCell ⟨w.heap.size + 1, 6, none⟩ (.slice zA zl.length zc)).heap.size := by simp [World.setCell]
      rw [← e7]
      have hb57 : w5.heap.size ≤ w6.heap.size := by have := HSZ6.out; simpa [World.setCell] using this
      have hb67 : w6.heap.size ≤ w7.heap.size := by have := HSZ7.out; simpa [World.setCell] using this
      rcases hk with hk | hk | hk
      · have := HLF.out k hk
        omega
      · have := HLS.out k hk
        omega
      · have := HLE.out k hk
        omega
    · exact (((((((HR7.out.stored hgb).stored (by omega)).stored (by omega)).stored (by omega)).stored (by omega)).stored (by omega)).stored (by omega)).stored (by omega)
    · exact grown_stored (grown_stored (grown_stored (grown_stored (grown_stored (grown_stored (grown_stored (grown_stored HG7.out (by omega)) (by omega)) (by omega)) (by omega)) (by omega)) (by omega)) (by omega)) (by omega)
end Go.Proofs.Ytkjgplcfoihohaa
