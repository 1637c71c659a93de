/-
  Texts of this claim put together: Tk6Rep, Tk6Don, Tk6Cel, Tk6Mrk, Tk6Reg.
-/
import Derived.Test.YtnkjdijbfnmnhaaGreatJ34
import Derived.Test.YtnkjdijbfnmnhaaGreatJ35
import Derived.Test.YtnkjdijbfnmnhaaGreatJ32
/-
  Contract of reg's taker's method: Rep.
-/
namespace Go.Proofs.YtnkjdijbfnmnhaaGreat
open Go.RowKit

set_option maxRecDepth 100000 in
set_option maxHeartbeats 6400000 in
theorem reply6_any {g : Nat} {s : RS} {w : World} (h : Rdr w g s.1 s.2) (hs : RSok s) : Calls Tryz.prog 321 #[takerV g] w (PartR RepM.v RepM.p RepM.ok RepM.ft w g (repS s)) := by
  have hgl : g < w.heap.size := h.glt
  have hb1 := (numS_ok (most := 1000) hs).2
  have hk1 := (numS_ok (most := 1000) hs).1
  have HC1 := hide_ (fun (u : World) (hr : Rdr u g s.1 s.2) => tOther6_any hr hs)
  obtain ⟨n1, hn1⟩ : ∃ n, (numS 1000 s).1 = n := ⟨_, rfl⟩
  obtain ⟨s1, hs1⟩ : ∃ t, (numS 1000 s).2 = t := ⟨_, rfl⟩
  rw [hn1] at hb1
  rw [hs1] at hk1
  simp only [hn1, hs1] at HC1
  have hb2 := (numBig_ok hk1).2
  have hk2 := (numBig_ok hk1).1
  have HC2 := hide_ (fun (u : World) (hr : Rdr u g s1.1 s1.2) => tNumber6_any hr hk1)
  obtain ⟨n2, hn2⟩ : ∃ n, (numBig s1).1 = n := ⟨_, rfl⟩
  obtain ⟨s2, hs2⟩ : ∃ t, (numBig s1).2 = t := ⟨_, rfl⟩
  rw [hn2] at hb2
  rw [hs2] at hk2
  simp only [hn2, hs2] at HC2
  have hb3 := (numS_ok (most := 1000) hk2).2
  have hk3 := (numS_ok (most := 1000) hk2).1
  have HC3 := hide_ (fun (u : World) (hr : Rdr u g s2.1 s2.2) => tOther6_any hr hk2)
  obtain ⟨n3, hn3⟩ : ∃ n, (numS 1000 s2).1 = n := ⟨_, rfl⟩
  obtain ⟨s3, hs3⟩ : ∃ t, (numS 1000 s2).2 = t := ⟨_, rfl⟩
  rw [hn3] at hb3
  rw [hs3] at hk3
  simp only [hn3, hs3] at HC3
  have hk4 := varS_ok hk3
  have HC4 := hide_ (fun (u : World) (hr : Rdr u g s3.1 s3.2) => intsOf6_any hr hk3)
  obtain ⟨n4, hn4⟩ : ∃ n, (varS s3).1 = n := ⟨_, rfl⟩
  obtain ⟨s4, hs4⟩ : ∃ t, (varS s3).2 = t := ⟨_, rfl⟩
  rw [hs4] at hk4
  simp only [show varS s3 = (n4, s4) by rw [← hn4, ← hs4]] at HC4
  have HP := hide_ (show repS s = ((((n1 : Int), (n2 : Int), (n3 : Int), n4) : RepP), s4) by unfold repS; simp only [hn1, hs1, hn2, hs2, hn3, hs3, hn4, hs4])
  have HB1 := hide_ hb1
  have HB2 := hide_ hb2
  have HB3 := hide_ hb3
  rw [HP.out]
  have HG0 := hide_ (World.grownBy.refl ((w.alloc (.cells #[.pointer (some ⟨g, 0, none⟩)] 283)).alloc (.cells #[.int .i64 0, .int .u64 0, .int .i64 0, .slice none 0 0] 38)).drew (some g))
  have HR0 := hide_ (show Rdr ((w.alloc (.cells #[.pointer (some ⟨g, 0, none⟩)] 283)).alloc (.cells #[.int .i64 0, .int .u64 0, .int .i64 0, .slice none 0 0] 38)).drew g s.1 s.2 from ((h.made _).made _).drawn)
  have HBX := hide_ (fun (u : World) (hu : (w.alloc (.cells #[.pointer (some ⟨g, 0, none⟩)] 283)).grownBy u (some g)) => show u.cell? ⟨w.heap.size, 0, none⟩ = some (.pointer (some ⟨g, 0, none⟩)) by
    have h1 := BoxAt.new w #[.pointer (some ⟨g, 0, none⟩)] 283
    exact cell_of_row _ _ 0 _ _ _ (box_far hu h1 (by omega)))
  have HZ := hide_ (fun (u : World) (hu : ((w.alloc (.cells #[.pointer (some ⟨g, 0, none⟩)] 283)).alloc (.cells #[.int .i64 0, .int .u64 0, .int .i64 0, .slice none 0 0] 38)).drew.grownBy u (some g)) => show u.heap[w.heap.size + 1]? = some (.cells #[.int .i64 0, .int .u64 0, .int .i64 0, .slice none 0 0] 38 (0, 0)) from box_far hu (by
    have := BoxAt.new (w.alloc (.cells #[.pointer (some ⟨g, 0, none⟩)] 283)) #[.int .i64 0, .int .u64 0, .int .i64 0, .slice none 0 0] 38
    have h2 : ((w.alloc (.cells #[.pointer (some ⟨g, 0, none⟩)] 283)).alloc (.cells #[.int .i64 0, .int .u64 0, .int .i64 0, .slice none 0 0] 38)).heap[w.heap.size + 1]? = some (.cells #[.int .i64 0, .int .u64 0, .int .i64 0, .slice none 0 0] 38 (0, 0)) := by simpa [BoxAt] using this
    exact h2) (by omega))
  clear h hs hn1 hn2 hn3 hn4 hs1 hs2 hs3 hs4 hk1 hk2 hk3 hk4
  unfold takerV
  go_enter Tryz.func321, Tryz.ntmps321
  go_wp2
  refine wp_region_held_drew (S := fun w' => w'.cell? ⟨w.heap.size, 0, none⟩ = some (.pointer (some ⟨g, 0, none⟩))) (by kernel_rfl) (HBX.out _ (grown_made (grown_ndrew HG0.out))) (fun hHeld => ?_)
  refine wpAnyH_take (i := 0) (oi := ⟨some 3, _, _, _, _, _⟩) (v := ?v1) rfl (by kernel_rfl) (by kernel_rfl) (by kernel_rfl) (fun _ _ _ h => h) (Or.inl ⟨by rfl, ?hy1⟩) (by assumption) ?rest1
  case hy1 => intro w hSw; (try dsimp only at hSw); go_simp <;> with_reducible rfl
  simp only [Act.put, List.setIfInBounds_toArray, List.set_cons_zero, List.set_cons_succ]
  refine wpAnyH_take (i := 2) (oi := ⟨some 5, _, _, _, _, _⟩) (v := ?v2) rfl (by kernel_rfl) (by kernel_rfl) (by kernel_rfl) (fun _ _ _ h => h) (Or.inl ⟨by rfl, ?hy2⟩) (by assumption) ?rest2
  case hy2 => intro w hSw; (try dsimp only at hSw); go_simp <;> with_reducible rfl
  simp only [Act.put, List.setIfInBounds_toArray, List.set_cons_zero, List.set_cons_succ]
  refine wpAnyH_take (i := 4) (oi := ⟨some 7, _, _, _, _, _⟩) (v := ?v3) rfl (by kernel_rfl) (by kernel_rfl) (by kernel_rfl) (fun _ _ _ h => h) (Or.inl ⟨by rfl, ?hy3⟩) (by assumption) ?rest3
  case hy3 => intro w hSw; (try dsimp only at hSw); go_simp <;> with_reducible rfl
  simp only [Act.put, List.setIfInBounds_toArray, List.set_cons_zero, List.set_cons_succ]
  refine wpAnyH_take (i := 6) (oi := ⟨some 9, _, _, _, _, _⟩) (v := ?v4) rfl (by kernel_rfl) (by kernel_rfl) (by kernel_rfl) (fun _ _ _ h => h) (Or.inl ⟨by rfl, ?hy4⟩) (by assumption) ?rest4
  case hy4 => intro w hSw; (try dsimp only at hSw); go_simp <;> with_reducible rfl
  simp only [Act.put, List.setIfInBounds_toArray, List.set_cons_zero, List.set_cons_succ]
  refine wpAnyH_take (i := 7) (oi := ⟨some 10, _, _, _, _, _⟩) (v := ?v5) rfl (by kernel_rfl) (by kernel_rfl) (by kernel_rfl) (fun _ _ _ h => h) (Or.inl ⟨by rfl, ?hy5⟩) (by assumption) ?rest5
  case hy5 => intro w hSw; (try dsimp only at hSw); go_simp <;> with_reducible rfl
  simp only [Act.put, List.setIfInBounds_toArray, List.set_cons_zero, List.set_cons_succ]
  refine wpAnyH_take (i := 8) (oi := ⟨some 11, _, _, _, _, _⟩) (v := ?v6) rfl (by kernel_rfl) (by kernel_rfl) (by kernel_rfl) (fun _ _ _ h => h) (Or.inl ⟨by rfl, ?hy6⟩) (by assumption) ?rest6
  case hy6 => intro w hSw; (try dsimp only at hSw); go_simp <;> with_reducible rfl
  simp only [Act.put, List.setIfInBounds_toArray, List.set_cons_zero, List.set_cons_succ]
  refine wpAnyH_take (i := 9) (oi := ⟨some 12, _, _, _, _, _⟩) (v := ?v7) rfl (by kernel_rfl) (by kernel_rfl) (by kernel_rfl) (fun _ _ _ h => h) (Or.inl ⟨by rfl, ?hy7⟩) (by assumption) ?rest7
  case hy7 => intro w hSw; (try dsimp only at hSw); go_simp <;> with_reducible rfl
  simp only [Act.put, List.setIfInBounds_toArray, List.set_cons_zero, List.set_cons_succ]
  refine wpAnyH_ready (rs := [1]) (by kernel_rfl) (by simp) ?_
  refine AllReadyH.cons rfl (fun K hK => ?_) AllReadyH.nil
  go_simp
  go_wp2_with fail
  refine (HC1.out _ HR0.out).mono ?_
  rintro en w1 ⟨rfl, hr1, hg1⟩
  have HR1 := hide_ hr1
  have HG1 := hide_ (grown_join HG0.out hg1)
  clear hr1 hg1
  refine hK.out _ _ (HBX.out _ (grown_made (grown_ndrew HG1.out))) (fun hHeld => ?_)
  clear hK K
  refine wpAnyH_ready (rs := [3]) (by kernel_rfl) (by simp) ?_
  refine AllReadyH.cons rfl (fun K hK => ?_) AllReadyH.nil
  go_simp
  go_wp2_with fail
  refine (HC2.out _ HR1.out).mono ?_
  rintro en w2 ⟨rfl, hr2, hg2⟩
  have HR2 := hide_ hr2
  have HG2 := hide_ (grown_join HG1.out hg2)
  clear hr2 hg2
  refine hK.out _ _ (HBX.out _ (grown_made (grown_ndrew HG2.out))) (fun hHeld => ?_)
  clear hK K
  refine wpAnyH_ready (rs := [5]) (by kernel_rfl) (by simp) ?_
  refine AllReadyH.cons rfl (fun K hK => ?_) AllReadyH.nil
  go_simp
  go_wp2_with fail
  refine (HC3.out _ HR2.out).mono ?_
  rintro en w3 ⟨rfl, hr3, hg3⟩
  have HR3 := hide_ hr3
  have HG3 := hide_ (grown_join HG2.out hg3)
  clear hr3 hg3
  refine hK.out _ _ (HBX.out _ (grown_made (grown_ndrew HG3.out))) (fun hHeld => ?_)
  clear hK K
  refine wpAnyH_ready (rs := [10]) (by kernel_rfl) (by simp) ?_
  refine AllReadyH.cons rfl (fun K hK => ?_) AllReadyH.nil
  go_simp
  go_wp2_with fail
  refine (HC4.out _ HR3.out).mono ?_
  rintro en w4 ⟨x4, rfl, hp4, ho4, hl4, hr4, hg4⟩
  obtain ⟨xA4, xc4, xl4⟩ := x4
  simp only [Sl.v]
  have HPP4 := hide_ hp4
  have HOK4 := hide_ ho4
  have HLI4 := hide_ hl4
  clear hp4 ho4 hl4
  have HR4 := hide_ hr4
  have HG4 := hide_ (grown_join HG3.out hg4)
  clear hr4 hg4
  refine hK.out _ _ (HBX.out _ (grown_made (grown_ndrew HG4.out))) (fun hHeld => ?_)
  clear hK K
  refine wpAnyH_take (i := 11) (oi := ⟨some 14, _, _, _, _, _⟩) (v := ?v8) rfl (by kernel_rfl) (by kernel_rfl) (by kernel_rfl) (fun _ _ _ h => h) (Or.inl ⟨by rfl, ?hy8⟩) (by assumption) ?rest8
  case hy8 => intro w hSw; (try dsimp only at hSw); go_simp <;> with_reducible rfl
  simp only [Act.put, List.setIfInBounds_toArray, List.set_cons_zero, List.set_cons_succ]
  have hkz := HZ.out _ HG4.out
  have q0 : w4.cell? ⟨w.heap.size + 1, 0, none⟩ = some (.int .i64 0) := by rw [cell_of_row _ _ 0 _ _ _ hkz]; rfl
  have f0 : w4.frozen? ⟨w.heap.size + 1, 0, none⟩ = false := by simp [World.frozen?, hkz]
  have q1 : w4.cell? ⟨w.heap.size + 1, 1, none⟩ = some (.int .u64 0) := by rw [cell_of_row _ _ 1 _ _ _ hkz]; rfl
  have f1 : w4.frozen? ⟨w.heap.size + 1, 1, none⟩ = false := by simp [World.frozen?, hkz]
  have q2 : w4.cell? ⟨w.heap.size + 1, 2, none⟩ = some (.int .i64 0) := by rw [cell_of_row _ _ 2 _ _ _ hkz]; rfl
  have f2 : w4.frozen? ⟨w.heap.size + 1, 2, none⟩ = false := by simp [World.frozen?, hkz]
  have q3 : w4.cell? ⟨w.heap.size + 1, 3, none⟩ = some (.slice none 0 0) := by rw [cell_of_row _ _ 3 _ _ _ hkz]; rfl
  have f3 : w4.frozen? ⟨w.heap.size + 1, 3, none⟩ = false := by simp [World.frozen?, hkz]
  clear hkz
  refine wpAnyH_ready (rs := [12]) (by kernel_rfl) (by simp) ?_
  refine AllReadyH.cons rfl (fun K hK => ?_) AllReadyH.nil
  go_simp
  refine hK.out _ _ (HBX.out _ (grown_stored (grown_stored (grown_stored (grown_stored (grown_made (grown_ndrew HG4.out)) (by simp)) (by simp)) (by simp)) (by simp))) (fun hHeld => ?_)
  clear hK K
  refine wpAnyH_done (by kernel_rfl) ?_ _
  go_wp2
  refine bodyPost_ret (v := .agg #[.int .i64 n1, .int .u64 n2, .int .i64 n3, .slice xA4 xl4.length xc4]) (by simp [results, Tryz.results321, go_sem, q0, q1, q2, q3]) rfl ?_
  clear q0 f0 q1 f1 q2 f2 q3 f3
  have hzp : w.heap.size + 1 < w3.heap.size := by
    have h1 := HG3.out.size
    simp at h1
    omega
  refine ⟨⟨n1, n2, n3, xA4, xc4, xl4⟩, rfl, by rw [← HPP4.out]; rfl, ⟨⟨by have := HB1.out; unfold I64; simp; omega, HB2.out, by have := HB3.out; unfold I64; simp; omega⟩, (keep_stored ints_local (keep_stored ints_local (keep_stored ints_local (keep_stored ints_local HOK4.out HLI4.out hzp) HLI4.out hzp) HLI4.out hzp) HLI4.out hzp)⟩, HLI4.out.more (by omega) (by simp), ((((HR4.out.stored (by omega)).stored (by omega)).stored (by omega)).stored (by omega)), (grown_stored (grown_stored (grown_stored (grown_stored (grown_made (grown_made (grown_ndrew HG4.out))) (Nat.le_succ _)) (Nat.le_succ _)) (Nat.le_succ _)) (Nat.le_succ _))⟩

end Go.Proofs.YtnkjdijbfnmnhaaGreat

/-
  Contract of reg's taker's method: Don.
-/
namespace Go.Proofs.YtnkjdijbfnmnhaaGreat
open Go.RowKit

set_option maxRecDepth 100000 in
set_option maxHeartbeats 6400000 in
theorem done6_any {g : Nat} {s : RS} {w : World} (h : Rdr w g s.1 s.2) (hs : RSok s) : Calls Tryz.prog 269 #[takerV g] w (PartR DoneM.v DoneM.p DoneM.ok DoneM.ft w g (doneS s)) := by
  have hgl : g < w.heap.size := h.glt
  have hb1 := (numS_ok (most := 255) hs).2
  have hk1 := (numS_ok (most := 255) hs).1
  have HC1 := hide_ (fun (u : World) (hr : Rdr u g s.1 s.2) => tSmall6_any hr hs)
  obtain ⟨n1, hn1⟩ : ∃ n, (numS 255 s).1 = n := ⟨_, rfl⟩
  obtain ⟨s1, hs1⟩ : ∃ t, (numS 255 s).2 = t := ⟨_, rfl⟩
  rw [hn1] at hb1
  rw [hs1] at hk1
  simp only [hn1, hs1] at HC1
  have hb2 := (numBig_ok hk1).2
  have hk2 := (numBig_ok hk1).1
  have HC2 := hide_ (fun (u : World) (hr : Rdr u g s1.1 s1.2) => tNumber6_any hr hk1)
  obtain ⟨n2, hn2⟩ : ∃ n, (numBig s1).1 = n := ⟨_, rfl⟩
  obtain ⟨s2, hs2⟩ : ∃ t, (numBig s1).2 = t := ⟨_, rfl⟩
  rw [hn2] at hb2
  rw [hs2] at hk2
  simp only [hn2, hs2] at HC2
  have hk3 := repS_ok hk2
  have HC3 := hide_ (fun (u : World) (hr : Rdr u g s2.1 s2.2) => reply6_any hr hk2)
  obtain ⟨n3, hn3⟩ : ∃ n, (repS s2).1 = n := ⟨_, rfl⟩
  obtain ⟨s3, hs3⟩ : ∃ t, (repS s2).2 = t := ⟨_, rfl⟩
  rw [hs3] at hk3
  simp only [show repS s2 = (n3, s3) by rw [← hn3, ← hs3]] at HC3
  have HP := hide_ (show doneS s = ((((n1 : Int), (n2 : Int), n3) : DoneP), s3) by unfold doneS; simp only [hn1, hs1, hn2, hs2, hn3, hs3])
  have HB1 := hide_ hb1
  have HB2 := hide_ hb2
  rw [HP.out]
  have HG0 := hide_ (World.grownBy.refl ((w.alloc (.cells #[.pointer (some ⟨g, 0, none⟩)] 283)).alloc (.cells #[.int .u8 0, .int .u64 0, .int .i64 0, .int .u64 0, .int .i64 0, .slice none 0 0] 106)).drew (some g))
  have HR0 := hide_ (show Rdr ((w.alloc (.cells #[.pointer (some ⟨g, 0, none⟩)] 283)).alloc (.cells #[.int .u8 0, .int .u64 0, .int .i64 0, .int .u64 0, .int .i64 0, .slice none 0 0] 106)).drew g s.1 s.2 from ((h.made _).made _).drawn)
  have HBX := hide_ (fun (u : World) (hu : (w.alloc (.cells #[.pointer (some ⟨g, 0, none⟩)] 283)).grownBy u (some g)) => show u.cell? ⟨w.heap.size, 0, none⟩ = some (.pointer (some ⟨g, 0, none⟩)) by
    have h1 := BoxAt.new w #[.pointer (some ⟨g, 0, none⟩)] 283
    exact cell_of_row _ _ 0 _ _ _ (box_far hu h1 (by omega)))
  have HZ := hide_ (fun (u : World) (hu : ((w.alloc (.cells #[.pointer (some ⟨g, 0, none⟩)] 283)).alloc (.cells #[.int .u8 0, .int .u64 0, .int .i64 0, .int .u64 0, .int .i64 0, .slice none 0 0] 106)).drew.grownBy u (some g)) => show u.heap[w.heap.size + 1]? = some (.cells #[.int .u8 0, .int .u64 0, .int .i64 0, .int .u64 0, .int .i64 0, .slice none 0 0] 106 (0, 0)) from box_far hu (by
    have := BoxAt.new (w.alloc (.cells #[.pointer (some ⟨g, 0, none⟩)] 283)) #[.int .u8 0, .int .u64 0, .int .i64 0, .int .u64 0, .int .i64 0, .slice none 0 0] 106
    have h2 : ((w.alloc (.cells #[.pointer (some ⟨g, 0, none⟩)] 283)).alloc (.cells #[.int .u8 0, .int .u64 0, .int .i64 0, .int .u64 0, .int .i64 0, .slice none 0 0] 106)).heap[w.heap.size + 1]? = some (.cells #[.int .u8 0, .int .u64 0, .int .i64 0, .int .u64 0, .int .i64 0, .slice none 0 0] 106 (0, 0)) := by simpa [BoxAt] using this
    exact h2) (by omega))
  clear h hs hn1 hn2 hn3 hs1 hs2 hs3 hk1 hk2 hk3
  unfold takerV
  go_enter Tryz.func269, Tryz.ntmps269
  go_wp2
  refine wp_region_held_drew (S := fun w' => w'.cell? ⟨w.heap.size, 0, none⟩ = some (.pointer (some ⟨g, 0, none⟩))) (by kernel_rfl) (HBX.out _ (grown_made (grown_ndrew HG0.out))) (fun hHeld => ?_)
  refine wpAnyH_take (i := 0) (oi := ⟨some 3, _, _, _, _, _⟩) (v := ?v1) rfl (by kernel_rfl) (by kernel_rfl) (by kernel_rfl) (fun _ _ _ h => h) (Or.inl ⟨by rfl, ?hy1⟩) (by assumption) ?rest1
  case hy1 => intro w hSw; (try dsimp only at hSw); go_simp <;> with_reducible rfl
  simp only [Act.put, List.setIfInBounds_toArray, List.set_cons_zero, List.set_cons_succ]
  refine wpAnyH_take (i := 2) (oi := ⟨some 5, _, _, _, _, _⟩) (v := ?v2) rfl (by kernel_rfl) (by kernel_rfl) (by kernel_rfl) (fun _ _ _ h => h) (Or.inl ⟨by rfl, ?hy2⟩) (by assumption) ?rest2
  case hy2 => intro w hSw; (try dsimp only at hSw); go_simp <;> with_reducible rfl
  simp only [Act.put, List.setIfInBounds_toArray, List.set_cons_zero, List.set_cons_succ]
  refine wpAnyH_take (i := 4) (oi := ⟨some 7, _, _, _, _, _⟩) (v := ?v3) rfl (by kernel_rfl) (by kernel_rfl) (by kernel_rfl) (fun _ _ _ h => h) (Or.inl ⟨by rfl, ?hy3⟩) (by assumption) ?rest3
  case hy3 => intro w hSw; (try dsimp only at hSw); go_simp <;> with_reducible rfl
  simp only [Act.put, List.setIfInBounds_toArray, List.set_cons_zero, List.set_cons_succ]
  refine wpAnyH_ready (rs := [1]) (by kernel_rfl) (by simp) ?_
  refine AllReadyH.cons rfl (fun K hK => ?_) AllReadyH.nil
  go_simp
  go_wp2_with fail
  refine (HC1.out _ HR0.out).mono ?_
  rintro en w1 ⟨rfl, hr1, hg1⟩
  have HR1 := hide_ hr1
  have HG1 := hide_ (grown_join HG0.out hg1)
  clear hr1 hg1
  refine hK.out _ _ (HBX.out _ (grown_made (grown_ndrew HG1.out))) (fun hHeld => ?_)
  clear hK K
  refine wpAnyH_ready (rs := [3]) (by kernel_rfl) (by simp) ?_
  refine AllReadyH.cons rfl (fun K hK => ?_) AllReadyH.nil
  go_simp
  go_wp2_with fail
  refine (HC2.out _ HR1.out).mono ?_
  rintro en w2 ⟨rfl, hr2, hg2⟩
  have HR2 := hide_ hr2
  have HG2 := hide_ (grown_join HG1.out hg2)
  clear hr2 hg2
  refine hK.out _ _ (HBX.out _ (grown_made (grown_ndrew HG2.out))) (fun hHeld => ?_)
  clear hK K
  refine wpAnyH_ready (rs := [5]) (by kernel_rfl) (by simp) ?_
  refine AllReadyH.cons rfl (fun K hK => ?_) AllReadyH.nil
  go_simp
  go_wp2_with fail
  refine (HC3.out _ HR2.out).mono ?_
  rintro en w3 ⟨x3, rfl, hp3, ho3, hl3, hr3, hg3⟩
  obtain ⟨xe3, xi3, xs3, ⟨xA3, xc3, xl3⟩⟩ := x3
  simp only [RepM.v, Sl.v]
  have HPP3 := hide_ hp3
  have HOK3 := hide_ ho3
  have HLI3 := hide_ hl3
  clear hp3 ho3 hl3
  have HR3 := hide_ hr3
  have HG3 := hide_ (grown_join HG2.out hg3)
  clear hr3 hg3
  refine hK.out _ _ (HBX.out _ (grown_made (grown_ndrew HG3.out))) (fun hHeld => ?_)
  clear hK K
  refine wpAnyH_take (i := 6) (oi := ⟨some 9, _, _, _, _, _⟩) (v := ?v4) rfl (by kernel_rfl) (by kernel_rfl) (by kernel_rfl) (fun _ _ _ h => h) (Or.inl ⟨by rfl, ?hy4⟩) (by assumption) ?rest4
  case hy4 => intro w hSw; (try dsimp only at hSw); go_simp <;> with_reducible rfl
  simp only [Act.put, List.setIfInBounds_toArray, List.set_cons_zero, List.set_cons_succ]
  have hkz := HZ.out _ HG3.out
  have q0 : w3.cell? ⟨w.heap.size + 1, 0, none⟩ = some (.int .u8 0) := by rw [cell_of_row _ _ 0 _ _ _ hkz]; rfl
  have f0 : w3.frozen? ⟨w.heap.size + 1, 0, none⟩ = false := by simp [World.frozen?, hkz]
  have q1 : w3.cell? ⟨w.heap.size + 1, 1, none⟩ = some (.int .u64 0) := by rw [cell_of_row _ _ 1 _ _ _ hkz]; rfl
  have f1 : w3.frozen? ⟨w.heap.size + 1, 1, none⟩ = false := by simp [World.frozen?, hkz]
  have q2 : w3.cell? ⟨w.heap.size + 1, 2, none⟩ = some (.int .i64 0) := by rw [cell_of_row _ _ 2 _ _ _ hkz]; rfl
  have f2 : w3.frozen? ⟨w.heap.size + 1, 2, none⟩ = false := by simp [World.frozen?, hkz]
  have q3 : w3.cell? ⟨w.heap.size + 1, 3, none⟩ = some (.int .u64 0) := by rw [cell_of_row _ _ 3 _ _ _ hkz]; rfl
  have f3 : w3.frozen? ⟨w.heap.size + 1, 3, none⟩ = false := by simp [World.frozen?, hkz]
  have q4 : w3.cell? ⟨w.heap.size + 1, 4, none⟩ = some (.int .i64 0) := by rw [cell_of_row _ _ 4 _ _ _ hkz]; rfl
  have f4 : w3.frozen? ⟨w.heap.size + 1, 4, none⟩ = false := by simp [World.frozen?, hkz]
  have q5 : w3.cell? ⟨w.heap.size + 1, 5, none⟩ = some (.slice none 0 0) := by rw [cell_of_row _ _ 5 _ _ _ hkz]; rfl
  have f5 : w3.frozen? ⟨w.heap.size + 1, 5, none⟩ = false := by simp [World.frozen?, hkz]
  clear hkz
  refine wpAnyH_ready (rs := [7]) (by kernel_rfl) (by simp) ?_
  refine AllReadyH.cons rfl (fun K hK => ?_) AllReadyH.nil
  go_simp
  refine hK.out _ _ (HBX.out _ (grown_stored (grown_stored (grown_stored (grown_stored (grown_stored (grown_stored (grown_made (grown_ndrew HG3.out)) (by simp)) (by simp)) (by simp)) (by simp)) (by simp)) (by simp))) (fun hHeld => ?_)
  clear hK K
  refine wpAnyH_done (by kernel_rfl) ?_ _
  go_wp2
  refine bodyPost_ret (v := .agg #[.int .u8 n1, .int .u64 n2, .int .i64 xe3, .int .u64 xi3, .int .i64 xs3, .slice xA3 xl3.length xc3]) (by simp [results, Tryz.results269, go_sem, q0, q1, q2, q3, q4, q5]) rfl ?_
  clear q0 f0 q1 f1 q2 f2 q3 f3 q4 f4 q5 f5
  have hzp : w.heap.size + 1 < w2.heap.size := by
    have h1 := HG2.out.size
    simp at h1
    omega
  refine ⟨⟨n1, n2, xe3, xi3, xs3, xA3, xc3, xl3⟩, rfl, by rw [← HPP3.out]; rfl, done_of (by have := HB1.out; unfold U8; simp; omega) (HB2.out) (keep_stored rep_local (keep_stored rep_local (keep_stored rep_local (keep_stored rep_local (keep_stored rep_local (keep_stored rep_local HOK3.out HLI3.out hzp) HLI3.out hzp) HLI3.out hzp) HLI3.out hzp) HLI3.out hzp) HLI3.out hzp), HLI3.out.more (by omega) (by simp), ((((((HR3.out.stored (by omega)).stored (by omega)).stored (by omega)).stored (by omega)).stored (by omega)).stored (by omega)), (grown_stored (grown_stored (grown_stored (grown_stored (grown_stored (grown_stored (grown_made (grown_made (grown_ndrew HG3.out))) (Nat.le_succ _)) (Nat.le_succ _)) (Nat.le_succ _)) (Nat.le_succ _)) (Nat.le_succ _)) (Nat.le_succ _))⟩

end Go.Proofs.YtnkjdijbfnmnhaaGreat

/-
  Contract of reg's taker's method: Cel.
-/
namespace Go.Proofs.YtnkjdijbfnmnhaaGreat
open Go.RowKit

set_option maxRecDepth 100000 in
set_option maxHeartbeats 1600000 in
theorem cell6_any {g : Nat} {s : RS} {w : World} (h : Rdr w g s.1 s.2) (hs : RSok s) : Calls Tryz.prog 271 #[takerV g] w (PartR celV (fun c => (c.1, c.2.1, c.2.2.1, c.2.2.2)) (fun _ _ c => celIn c) noFt w g (celS s)) := by
  have hgl : g < w.heap.size := h.glt
  have hb1 := (numBig_ok hs).2
  have hk1 := (numBig_ok hs).1
  have HC1 := hide_ (fun (u : World) (hr : Rdr u g s.1 s.2) => tNumber6_any hr hs)
  obtain ⟨n1, hn1⟩ : ∃ n, (numBig s).1 = n := ⟨_, rfl⟩
  obtain ⟨s1, hs1⟩ : ∃ t, (numBig s).2 = t := ⟨_, rfl⟩
  rw [hn1] at hb1
  rw [hs1] at hk1
  simp only [hn1, hs1] at HC1
  have hb2 := (numS_ok (most := 255) hk1).2
  have hk2 := (numS_ok (most := 255) hk1).1
  have HC2 := hide_ (fun (u : World) (hr : Rdr u g s1.1 s1.2) => tSmall6_any hr hk1)
  obtain ⟨n2, hn2⟩ : ∃ n, (numS 255 s1).1 = n := ⟨_, rfl⟩
  obtain ⟨s2, hs2⟩ : ∃ t, (numS 255 s1).2 = t := ⟨_, rfl⟩
  rw [hn2] at hb2
  rw [hs2] at hk2
  simp only [hn2, hs2] at HC2
  have hb3 := (numS_ok (most := 1000) hk2).2
  have hk3 := (numS_ok (most := 1000) hk2).1
  have HC3 := hide_ (fun (u : World) (hr : Rdr u g s2.1 s2.2) => tOther6_any hr hk2)
  obtain ⟨n3, hn3⟩ : ∃ n, (numS 1000 s2).1 = n := ⟨_, rfl⟩
  obtain ⟨s3, hs3⟩ : ∃ t, (numS 1000 s2).2 = t := ⟨_, rfl⟩
  rw [hn3] at hb3
  rw [hs3] at hk3
  simp only [hn3, hs3] at HC3
  have hb4 := (intS_ok hk3).2
  have hk4 := (intS_ok hk3).1
  have HC4 := hide_ (fun (u : World) (hr : Rdr u g s3.1 s3.2) => Int_st hr hk3)
  obtain ⟨n4, hn4⟩ : ∃ n, (intS s3).1 = n := ⟨_, rfl⟩
  obtain ⟨s4, hs4⟩ : ∃ t, (intS s3).2 = t := ⟨_, rfl⟩
  rw [hn4] at hb4
  rw [hs4] at hk4
  simp only [hn4, hs4] at HC4
  have HP := hide_ (show celS s = (((n1 : Int), (n2 : Int), (n3 : Int), n4), s4) by unfold celS; simp only [hn1, hs1, hn2, hs2, hn3, hs3, hn4, hs4])
  have HB1 := hide_ hb1
  have HB2 := hide_ hb2
  have HB3 := hide_ hb3
  have HB4 := hide_ hb4
  rw [HP.out]
  have HG0 := hide_ (World.grownBy.refl ((w.alloc (.cells #[.pointer (some ⟨g, 0, none⟩)] 283)).alloc (.cells #[.int .u64 0, .int .u8 0, .int .i64 0, .int .i64 0] 108)).drew (some g))
  have HR0 := hide_ (show Rdr ((w.alloc (.cells #[.pointer (some ⟨g, 0, none⟩)] 283)).alloc (.cells #[.int .u64 0, .int .u8 0, .int .i64 0, .int .i64 0] 108)).drew g s.1 s.2 from ((h.made _).made _).drawn)
  have HBX := hide_ (fun (u : World) (hu : (w.alloc (.cells #[.pointer (some ⟨g, 0, none⟩)] 283)).grownBy u (some g)) => show u.cell? ⟨w.heap.size, 0, none⟩ = some (.pointer (some ⟨g, 0, none⟩)) by
    have h1 := BoxAt.new w #[.pointer (some ⟨g, 0, none⟩)] 283
    exact cell_of_row _ _ 0 _ _ _ (box_far hu h1 (by omega)))
  have HZ := hide_ (fun (u : World) (hu : ((w.alloc (.cells #[.pointer (some ⟨g, 0, none⟩)] 283)).alloc (.cells #[.int .u64 0, .int .u8 0, .int .i64 0, .int .i64 0] 108)).drew.grownBy u (some g)) => show u.heap[w.heap.size + 1]? = some (.cells #[.int .u64 0, .int .u8 0, .int .i64 0, .int .i64 0] 108 (0, 0)) from box_far hu (by
    have := BoxAt.new (w.alloc (.cells #[.pointer (some ⟨g, 0, none⟩)] 283)) #[.int .u64 0, .int .u8 0, .int .i64 0, .int .i64 0] 108
    have h2 : ((w.alloc (.cells #[.pointer (some ⟨g, 0, none⟩)] 283)).alloc (.cells #[.int .u64 0, .int .u8 0, .int .i64 0, .int .i64 0] 108)).heap[w.heap.size + 1]? = some (.cells #[.int .u64 0, .int .u8 0, .int .i64 0, .int .i64 0] 108 (0, 0)) := by simpa [BoxAt] using this
    exact h2) (by omega))
  clear h hs hn1 hn2 hn3 hn4 hs1 hs2 hs3 hs4 hk1 hk2 hk3 hk4
  unfold takerV
  go_enter Tryz.func271, Tryz.ntmps271
  go_wp2
  go_region_held_law (fun w' => w'.cell? ⟨w.heap.size, 0, none⟩ = some (.pointer (some ⟨g, 0, none⟩)))
    (first | exact HBX.out _ (grown_made (grown_ndrew HG0.out)) | exact HBX.out _ (grown_made (grown_ndrew HG1.out)) | exact HBX.out _ (grown_made (grown_ndrew HG2.out)) | exact HBX.out _ (grown_made (grown_ndrew HG3.out)) | exact HBX.out _ (grown_made (grown_ndrew HG4.out)) | exact HBX.out _ (grown_stored (grown_stored (grown_stored (grown_stored (grown_made (grown_ndrew HG4.out)) (by simp)) (by simp)) (by simp)) (by simp)))
    (first | (go_simp; go_at_call 264; refine (HC1.out _ HR0.out).mono ?_; rintro en w1 ⟨rfl, hr1, hg1⟩; (have HR1 := hide_ hr1); (have HGG1 := hide_ hg1); (have HG1 := hide_ (grown_join HG0.out hg1)); clear hr1 hg1) | (go_simp; go_at_call 263; refine (HC2.out _ HR1.out).mono ?_; rintro en w2 ⟨rfl, hr2, hg2⟩; (have HR2 := hide_ hr2); (have HGG2 := hide_ hg2); (have HG2 := hide_ (grown_join HG1.out hg2)); clear hr2 hg2) | (go_simp; go_at_call 265; refine (HC3.out _ HR2.out).mono ?_; rintro en w3 ⟨rfl, hr3, hg3⟩; (have HR3 := hide_ hr3); (have HGG3 := hide_ hg3); (have HG3 := hide_ (grown_join HG2.out hg3)); clear hr3 hg3) | (go_simp; go_at_call 267; refine (HC4.out _ HR3.out).mono ?_; rintro en w4 ⟨rfl, hr4, hg4⟩; (have HR4 := hide_ hr4); (have HGG4 := hide_ hg4); (have HG4 := hide_ (grown_join HG3.out hg4)); clear hr4 hg4; (have hkz := HZ.out _ HG4.out); (have q0 : w4.cell? ⟨w.heap.size + 1, 0, none⟩ = some (.int .u64 0) := (by rw [cell_of_row _ _ 0 _ _ _ hkz]; rfl)); (have f0 : w4.frozen? ⟨w.heap.size + 1, 0, none⟩ = false := (by simp [World.frozen?, hkz])); (have q1 : w4.cell? ⟨w.heap.size + 1, 1, none⟩ = some (.int .u8 0) := (by rw [cell_of_row _ _ 1 _ _ _ hkz]; rfl)); (have f1 : w4.frozen? ⟨w.heap.size + 1, 1, none⟩ = false := (by simp [World.frozen?, hkz])); (have q2 : w4.cell? ⟨w.heap.size + 1, 2, none⟩ = some (.int .i64 0) := (by rw [cell_of_row _ _ 2 _ _ _ hkz]; rfl)); (have f2 : w4.frozen? ⟨w.heap.size + 1, 2, none⟩ = false := (by simp [World.frozen?, hkz])); (have q3 : w4.cell? ⟨w.heap.size + 1, 3, none⟩ = some (.int .i64 0) := (by rw [cell_of_row _ _ 3 _ _ _ hkz]; rfl)); (have f3 : w4.frozen? ⟨w.heap.size + 1, 3, none⟩ = false := (by simp [World.frozen?, hkz])); clear hkz))
  go_wp2
  refine bodyPost_ret (v := .agg #[.int .u64 n1, .int .u8 n2, .int .i64 n3, .int .i64 n4]) (by simp [results, Tryz.results271, go_sem, q0, q1, q2, q3]) rfl ?_
  clear q0 f0 q1 f1 q2 f2 q3 f3
  refine ⟨(n1, n2, n3, n4), rfl, rfl, (show celIn _ from ⟨HB1.out, by have := HB2.out; unfold U8; simp; omega, by have := HB3.out; unfold I64; simp; omega, HB4.out⟩), fun _ h => h.elim, ((((HR4.out.stored (by omega)).stored (by omega)).stored (by omega)).stored (by omega)), (grown_stored (grown_stored (grown_stored (grown_stored (grown_made (grown_made (grown_ndrew HG4.out))) (Nat.le_succ _)) (Nat.le_succ _)) (Nat.le_succ _)) (Nat.le_succ _))⟩

end Go.Proofs.YtnkjdijbfnmnhaaGreat

/-
  Contract of reg's taker's method: Mrk.
-/
namespace Go.Proofs.YtnkjdijbfnmnhaaGreat
open Go.RowKit

set_option maxRecDepth 100000 in
set_option maxHeartbeats 1600000 in
theorem mark6_any {g : Nat} {s : RS} {w : World} (h : Rdr w g s.1 s.2) (hs : RSok s) : Calls Tryz.prog 273 #[takerV g] w (PartR mrkV (fun c => (c.1, c.2.1, c.2.2)) (fun _ _ c => mrkIn c) noFt w g (mrkS s)) := by
  have hgl : g < w.heap.size := h.glt
  have hb1 := (numS_ok (most := 255) hs).2
  have hk1 := (numS_ok (most := 255) hs).1
  have HC1 := hide_ (fun (u : World) (hr : Rdr u g s.1 s.2) => tSmall6_any hr hs)
  obtain ⟨n1, hn1⟩ : ∃ n, (numS 255 s).1 = n := ⟨_, rfl⟩
  obtain ⟨s1, hs1⟩ : ∃ t, (numS 255 s).2 = t := ⟨_, rfl⟩
  rw [hn1] at hb1
  rw [hs1] at hk1
  simp only [hn1, hs1] at HC1
  have hb2 := (numBig_ok hk1).2
  have hk2 := (numBig_ok hk1).1
  have HC2 := hide_ (fun (u : World) (hr : Rdr u g s1.1 s1.2) => tNumber6_any hr hk1)
  obtain ⟨n2, hn2⟩ : ∃ n, (numBig s1).1 = n := ⟨_, rfl⟩
  obtain ⟨s2, hs2⟩ : ∃ t, (numBig s1).2 = t := ⟨_, rfl⟩
  rw [hn2] at hb2
  rw [hs2] at hk2
  simp only [hn2, hs2] at HC2
  have hb3 := (numBig_ok hk2).2
  have hk3 := (numBig_ok hk2).1
  have HC3 := hide_ (fun (u : World) (hr : Rdr u g s2.1 s2.2) => tNumber6_any hr hk2)
  obtain ⟨n3, hn3⟩ : ∃ n, (numBig s2).1 = n := ⟨_, rfl⟩
  obtain ⟨s3, hs3⟩ : ∃ t, (numBig s2).2 = t := ⟨_, rfl⟩
  rw [hn3] at hb3
  rw [hs3] at hk3
  simp only [hn3, hs3] at HC3
  have HP := hide_ (show mrkS s = (((n1 : Int), (n2 : Int), (n3 : Int)), s3) by unfold mrkS; simp only [hn1, hs1, hn2, hs2, hn3, hs3])
  have HB1 := hide_ hb1
  have HB2 := hide_ hb2
  have HB3 := hide_ hb3
  rw [HP.out]
  have HG0 := hide_ (World.grownBy.refl ((w.alloc (.cells #[.pointer (some ⟨g, 0, none⟩)] 283)).alloc (.cells #[.int .u8 0, .int .u64 0, .int .u64 0] 110)).drew (some g))
  have HR0 := hide_ (show Rdr ((w.alloc (.cells #[.pointer (some ⟨g, 0, none⟩)] 283)).alloc (.cells #[.int .u8 0, .int .u64 0, .int .u64 0] 110)).drew g s.1 s.2 from ((h.made _).made _).drawn)
  have HBX := hide_ (fun (u : World) (hu : (w.alloc (.cells #[.pointer (some ⟨g, 0, none⟩)] 283)).grownBy u (some g)) => show u.cell? ⟨w.heap.size, 0, none⟩ = some (.pointer (some ⟨g, 0, none⟩)) by
    have h1 := BoxAt.new w #[.pointer (some ⟨g, 0, none⟩)] 283
    exact cell_of_row _ _ 0 _ _ _ (box_far hu h1 (by omega)))
  have HZ := hide_ (fun (u : World) (hu : ((w.alloc (.cells #[.pointer (some ⟨g, 0, none⟩)] 283)).alloc (.cells #[.int .u8 0, .int .u64 0, .int .u64 0] 110)).drew.grownBy u (some g)) => show u.heap[w.heap.size + 1]? = some (.cells #[.int .u8 0, .int .u64 0, .int .u64 0] 110 (0, 0)) from box_far hu (by
    have := BoxAt.new (w.alloc (.cells #[.pointer (some ⟨g, 0, none⟩)] 283)) #[.int .u8 0, .int .u64 0, .int .u64 0] 110
    have h2 : ((w.alloc (.cells #[.pointer (some ⟨g, 0, none⟩)] 283)).alloc (.cells #[.int .u8 0, .int .u64 0, .int .u64 0] 110)).heap[w.heap.size + 1]? = some (.cells #[.int .u8 0, .int .u64 0, .int .u64 0] 110 (0, 0)) := by simpa [BoxAt] using this
    exact h2) (by omega))
  clear h hs hn1 hn2 hn3 hs1 hs2 hs3 hk1 hk2 hk3
  unfold takerV
  go_enter Tryz.func273, Tryz.ntmps273
  go_wp2
  go_region_held_law (fun w' => w'.cell? ⟨w.heap.size, 0, none⟩ = some (.pointer (some ⟨g, 0, none⟩)))
    (first | exact HBX.out _ (grown_made (grown_ndrew HG0.out)) | exact HBX.out _ (grown_made (grown_ndrew HG1.out)) | exact HBX.out _ (grown_made (grown_ndrew HG2.out)) | exact HBX.out _ (grown_made (grown_ndrew HG3.out)) | exact HBX.out _ (grown_stored (grown_stored (grown_stored (grown_made (grown_ndrew HG3.out)) (by simp)) (by simp)) (by simp)))
    (first | (go_simp; go_at_call 263; refine (HC1.out _ HR0.out).mono ?_; rintro en w1 ⟨rfl, hr1, hg1⟩; (have HR1 := hide_ hr1); (have HGG1 := hide_ hg1); (have HG1 := hide_ (grown_join HG0.out hg1)); clear hr1 hg1) | (go_simp; go_at_call 264; refine (HC2.out _ HR1.out).mono ?_; rintro en w2 ⟨rfl, hr2, hg2⟩; (have HR2 := hide_ hr2); (have HGG2 := hide_ hg2); (have HG2 := hide_ (grown_join HG1.out hg2)); clear hr2 hg2) | (go_simp; go_at_call 264; refine (HC3.out _ HR2.out).mono ?_; rintro en w3 ⟨rfl, hr3, hg3⟩; (have HR3 := hide_ hr3); (have HGG3 := hide_ hg3); (have HG3 := hide_ (grown_join HG2.out hg3)); clear hr3 hg3; (have hkz := HZ.out _ HG3.out); (have q0 : w3.cell? ⟨w.heap.size + 1, 0, none⟩ = some (.int .u8 0) := (by rw [cell_of_row _ _ 0 _ _ _ hkz]; rfl)); (have f0 : w3.frozen? ⟨w.heap.size + 1, 0, none⟩ = false := (by simp [World.frozen?, hkz])); (have q1 : w3.cell? ⟨w.heap.size + 1, 1, none⟩ = some (.int .u64 0) := (by rw [cell_of_row _ _ 1 _ _ _ hkz]; rfl)); (have f1 : w3.frozen? ⟨w.heap.size + 1, 1, none⟩ = false := (by simp [World.frozen?, hkz])); (have q2 : w3.cell? ⟨w.heap.size + 1, 2, none⟩ = some (.int .u64 0) := (by rw [cell_of_row _ _ 2 _ _ _ hkz]; rfl)); (have f2 : w3.frozen? ⟨w.heap.size + 1, 2, none⟩ = false := (by simp [World.frozen?, hkz])); clear hkz))
  go_wp2
  refine bodyPost_ret (v := .agg #[.int .u8 n1, .int .u64 n2, .int .u64 n3]) (by simp [results, Tryz.results273, go_sem, q0, q1, q2]) rfl ?_
  clear q0 f0 q1 f1 q2 f2
  refine ⟨(n1, n2, n3), rfl, rfl, (show mrkIn _ from ⟨by have := HB1.out; unfold U8; simp; omega, HB2.out, HB3.out⟩), fun _ h => h.elim, (((HR3.out.stored (by omega)).stored (by omega)).stored (by omega)), (grown_stored (grown_stored (grown_stored (grown_made (grown_made (grown_ndrew HG3.out))) (Nat.le_succ _)) (Nat.le_succ _)) (Nat.le_succ _))⟩

end Go.Proofs.YtnkjdijbfnmnhaaGreat

/-
  Contract of reg's taker's method reg: a register is taken.
-/
namespace Go.Proofs.YtnkjdijbfnmnhaaGreat
open Go.RowKit

def regS (s : RS) : RegP × RS :=
  let k := numS 255 s
  let a := numBig k.2
  let b := numS 1000 a.2
  let c := varS b.2
  let d := manyS 1000 doneS c.2
  let e := manyS 1000 celS d.2
  let f := numBig e.2
  let m := manyS 1000 mrkS f.2
  if k.1 = 0 then (zeroP, k.2) else (⟨(k.1 : Int), (a.1 : Int), (b.1 : Int), c.1, d.1, e.1, (f.1 : Int), m.1⟩, m.2)
theorem zeroM_lies (lo hi : Nat) : Lies RegM.ft zeroM lo hi := fun k hk => by
  rcases hk with (⟨ad, e, _⟩ | ⟨x, hx, _⟩) | (⟨ad, e, _⟩ | ⟨x, hx, _⟩) | (⟨ad, e, _⟩ | ⟨x, hx, _⟩) | (⟨ad, e, _⟩ | ⟨x, hx, _⟩)
  all_goals first | cases e | cases hx

set_option maxRecDepth 100000 in
set_option maxHeartbeats 12800000 in
theorem reg6_any {g : Nat} {s : RS} {w : World} (h : Rdr w g s.1 s.2) (hs : RSok s) : Calls Tryz.prog 205 #[takerV g] w (PartR RegM.v RegM.p RegM.ok RegM.ft w g (regS s)) := by
  have hgl : g < w.heap.size := h.glt
  have hb1 := (numS_ok (most := 255) hs).2
  have hk1 := (numS_ok (most := 255) hs).1
  have HC1 := hide_ (fun (u : World) (hr : Rdr u g s.1 s.2) => tSmall6_any hr hs)
  obtain ⟨n1, hn1⟩ : ∃ n, (numS 255 s).1 = n := ⟨_, rfl⟩
  obtain ⟨s1, hs1⟩ : ∃ t, (numS 255 s).2 = t := ⟨_, rfl⟩
  rw [hn1] at hb1
  rw [hs1] at hk1
  simp only [hn1, hs1] at HC1
  have HN1 := hide_ (show numS 255 s = (n1, s1) by rw [← hn1, ← hs1])
  have HB1 := hide_ hb1
  have HK1 := hide_ hk1
  have HR0 := hide_ (show Rdr ((w.alloc (.cells #[.pointer (some ⟨g, 0, none⟩)] 283)).alloc (.cells #[.int .u8 0, .int .u64 0, .int .i64 0, .slice none 0 0, .slice none 0 0, .slice none 0 0, .int .u64 0, .slice none 0 0] 31)) g s.1 s.2 from (h.made _).made _)
  have HG0 := hide_ (World.grownBy.refl ((w.alloc (.cells #[.pointer (some ⟨g, 0, none⟩)] 283)).alloc (.cells #[.int .u8 0, .int .u64 0, .int .i64 0, .slice none 0 0, .slice none 0 0, .slice none 0 0, .int .u64 0, .slice none 0 0] 31)) (some g))
  have HBX0 := hide_ (show BoxAt ((w.alloc (.cells #[.pointer (some ⟨g, 0, none⟩)] 283)).alloc (.cells #[.int .u8 0, .int .u64 0, .int .i64 0, .slice none 0 0, .slice none 0 0, .slice none 0 0, .int .u64 0, .slice none 0 0] 31)) w.heap.size #[.pointer (some ⟨g, 0, none⟩)] 283 from (BoxAt.new w _ _).alloc (.cells #[.int .u8 0, .int .u64 0, .int .i64 0, .slice none 0 0, .slice none 0 0, .slice none 0 0, .int .u64 0, .slice none 0 0] 31))
  have HZ0 := hide_ (show BoxAt ((w.alloc (.cells #[.pointer (some ⟨g, 0, none⟩)] 283)).alloc (.cells #[.int .u8 0, .int .u64 0, .int .i64 0, .slice none 0 0, .slice none 0 0, .slice none 0 0, .int .u64 0, .slice none 0 0] 31)) (w.heap.size + 1) #[.int .u8 0, .int .u64 0, .int .i64 0, .slice none 0 0, .slice none 0 0, .slice none 0 0, .int .u64 0, .slice none 0 0] 31 from by
    have h1 := BoxAt.new (w.alloc (.cells #[.pointer (some ⟨g, 0, none⟩)] 283)) #[.int .u8 0, .int .u64 0, .int .i64 0, .slice none 0 0, .slice none 0 0, .slice none 0 0, .int .u64 0, .slice none 0 0] 31
    simpa using h1)
  have HFAR := hide_ (fun (u u' : World) (b : Nat) (cs : Array Value) (t : TypeId) (hu : u.grownBy u' (some g)) (hb : BoxAt u b cs t) (hne : g ≠ b) => show BoxAt u' b cs t from box_far hu hb hne)
  clear h hs hn1 hs1 hb1 hk1
  by_cases k0 : n1 = 0
  case pos =>
    have HP := hide_ (show regS s = (zeroP, s1) by unfold regS; simp [HN1.out, k0])
    rw [HP.out]
    have hd0 : ((n1 : Int) == 0) = true := by simp [k0]
    have HK0 := hide_ k0
    clear k0
    unfold takerV
    go_enter Tryz.func205, Tryz.ntmps205
    go_wp2_with fail
    refine (HC1.out _ HR0.out).mono ?_
    rintro en w1 ⟨rfl, hr1, hg1⟩
    have HR1w := hide_ hr1
    have HG1w := hide_ (show w.grownBy w1 (some g) from grown_made (grown_made hg1))
    have HR1 := hide_ (hr1.made (.cells #[.int .u8 n1, .int .u64 0, .int .i64 0, .slice none 0 0, .slice none 0 0, .slice none 0 0, .int .u64 0, .slice none 0 0] 31))
    have hz12 : w.heap.size + 2 ≤ w1.heap.size := by have h := hg1.size; simpa using h
    have HBX1 := hide_ ((HFAR.out _ _ _ _ _ hg1 HBX0.out (by omega)).alloc (.cells #[.int .u8 n1, .int .u64 0, .int .i64 0, .slice none 0 0, .slice none 0 0, .slice none 0 0, .int .u64 0, .slice none 0 0] 31))
    have HZW := hide_ (HFAR.out _ _ _ _ _ hg1 HZ0.out (by omega))
    have HZ1 := hide_ ((HFAR.out _ _ _ _ _ hg1 HZ0.out (by omega)).alloc (.cells #[.int .u8 n1, .int .u64 0, .int .i64 0, .slice none 0 0, .slice none 0 0, .slice none 0 0, .int .u64 0, .slice none 0 0] 31))
    have HT1 := hide_ (BoxAt.new w1 #[.int .u8 n1, .int .u64 0, .int .i64 0, .slice none 0 0, .slice none 0 0, .slice none 0 0, .int .u64 0, .slice none 0 0] 31)
    have HG1 := hide_ (show w.grownBy (w1.alloc (.cells #[.int .u8 n1, .int .u64 0, .int .i64 0, .slice none 0 0, .slice none 0 0, .slice none 0 0, .int .u64 0, .slice none 0 0] 31)) (some g) from grown_join (grown_made (grown_made hg1)) (World.grownBy_alloc _ _ _))
    clear hr1 hg1
    have hgt : g < w1.heap.size := by omega
    have hzt : w.heap.size < w1.heap.size := by omega
    have hzt1 : w.heap.size + 1 < w1.heap.size := by omega
    have hn255 : n1 ≤ 255 := HB1.out
    have r0 := (HZW.out.cell 0).trans (show _ = some (.int .u8 0 : Value) from rfl)
    have g0 := HZW.out.frozen 0
    have r1 := (HZW.out.cell 1).trans (show _ = some (.int .u64 0 : Value) from rfl)
    have g1 := HZW.out.frozen 1
    have r2 := (HZW.out.cell 2).trans (show _ = some (.int .i64 0 : Value) from rfl)
    have g2 := HZW.out.frozen 2
    have r3 := (HZW.out.cell 3).trans (show _ = some (.slice none 0 0 : Value) from rfl)
    have g3 := HZW.out.frozen 3
    have r4 := (HZW.out.cell 4).trans (show _ = some (.slice none 0 0 : Value) from rfl)
    have g4 := HZW.out.frozen 4
    have r5 := (HZW.out.cell 5).trans (show _ = some (.slice none 0 0 : Value) from rfl)
    have g5 := HZW.out.frozen 5
    have r6 := (HZW.out.cell 6).trans (show _ = some (.int .u64 0 : Value) from rfl)
    have g6 := HZW.out.frozen 6
    have r7 := (HZW.out.cell 7).trans (show _ = some (.slice none 0 0 : Value) from rfl)
    have g7 := HZW.out.frozen 7
    go_wp2
    refine bodyPost_ret (v := .agg #[.int .u8 n1, .int .u64 0, .int .i64 0, .slice none 0 0, .slice none 0 0, .slice none 0 0, .int .u64 0, .slice none 0 0]) (by simp [results, Tryz.results205, go_sem, r0, r1, r2, r3, r4, r5, r6, r7, hzt1]) rfl ?_
    clear r0 g0 r1 g1 r2 g2 r3 g3 r4 g4 r5 g5 r6 g6 r7 g7
    exact ⟨⟨n1, 0, 0, ⟨none, 0, []⟩, ⟨none, 0, []⟩, ⟨none, 0, []⟩, 0, ⟨none, 0, []⟩⟩, rfl, by unfold RegM.p zeroP; simp [HK0.out], ⟨⟨by rw [HK0.out]; exact (zeroM_ok w 0).1.1, (zeroM_ok w 0).1.2⟩, (zeroM_ok _ _).2⟩, zeroM_lies _ _, (((((((((HR1w.out.stored (by omega)).stored (by omega)).stored (by omega)).stored (by omega)).stored (by omega)).stored (by omega)).stored (by omega)).stored (by omega)).made _), (grown_join (grown_stored (grown_stored (grown_stored (grown_stored (grown_stored (grown_stored (grown_stored (grown_stored HG1w.out (by omega)) (by omega)) (by omega)) (by omega)) (by omega)) (by omega)) (by omega)) (by omega)) (World.grownBy_alloc _ _ _))⟩
  have hd0 : ((n1 : Int) == 0) = false := beq_eq_false_iff_ne.2 (by omega)
  have HC2 := hide_ (fun (u : World) (hr : Rdr u g s1.1 s1.2) => tNumber6_any hr HK1.out)
  have hk2 := (numBig_ok HK1.out).1
  have HU2 := hide_ (numBig_ok HK1.out).2
  obtain ⟨m2, hm2⟩ : ∃ n, (numBig s1).1 = n := ⟨_, rfl⟩
  obtain ⟨s2, hs2⟩ : ∃ t, (numBig s1).2 = t := ⟨_, rfl⟩
  rw [hs2] at hk2
  rw [hm2] at HU2
  have HN2 := hide_ (show numBig s1 = (m2, s2) by rw [← hm2, ← hs2])
  simp only [HN2.out] at HC2
  have HK2 := hide_ hk2
  clear hk2 hm2 hs2
  have HC3 := hide_ (fun (u : World) (hr : Rdr u g s2.1 s2.2) => tOther6_any hr HK2.out)
  have hk3 := (numS_ok (most := 1000) HK2.out).1
  have HU3 := hide_ (numS_ok (most := 1000) HK2.out).2
  obtain ⟨m3, hm3⟩ : ∃ n, (numS 1000 s2).1 = n := ⟨_, rfl⟩
  obtain ⟨s3, hs3⟩ : ∃ t, (numS 1000 s2).2 = t := ⟨_, rfl⟩
  rw [hs3] at hk3
  rw [hm3] at HU3
  have HN3 := hide_ (show numS 1000 s2 = (m3, s3) by rw [← hm3, ← hs3])
  simp only [HN3.out] at HC3
  have HK3 := hide_ hk3
  clear hk3 hm3 hs3
  have HC4 := hide_ (fun (u : World) (hr : Rdr u g s3.1 s3.2) => intsOf6_any hr HK3.out)
  have hk4 := varS_ok HK3.out
  obtain ⟨m4, hm4⟩ : ∃ n, (varS s3).1 = n := ⟨_, rfl⟩
  obtain ⟨s4, hs4⟩ : ∃ t, (varS s3).2 = t := ⟨_, rfl⟩
  rw [hs4] at hk4
  have HN4 := hide_ (show varS s3 = (m4, s4) by rw [← hm4, ← hs4])
  simp only [HN4.out] at HC4
  have HK4 := hide_ hk4
  clear hk4 hm4 hs4
  unfold takerV at HC4
  have HC5 := hide_ (fun (u : World) (hr : Rdr u g s4.1 s4.2) => manyDone6_any (w := u) DoneM.p 269 #[takerV g] #[] doneS hr HK4.out (fun _ h => doneS_ok h) (fun _ _ => rfl) (fun w1 s1 _ hr hs1 => done6_any hr hs1))
  have hk5 := manyS_ok (most := 1000) (fun _ h => doneS_ok h) HK4.out
  obtain ⟨m5, hm5⟩ : ∃ n, (manyS 1000 doneS s4).1 = n := ⟨_, rfl⟩
  obtain ⟨s5, hs5⟩ : ∃ t, (manyS 1000 doneS s4).2 = t := ⟨_, rfl⟩
  rw [hs5] at hk5
  have HN5 := hide_ (show manyS 1000 doneS s4 = (m5, s5) by rw [← hm5, ← hs5])
  simp only [HN5.out] at HC5
  have HK5 := hide_ hk5
  clear hk5 hm5 hs5
  unfold takerV at HC5
  have HC6 := hide_ (fun (u : World) (hr : Rdr u g s5.1 s5.2) => manyCell6_any (w := u) (fun c => (c.1, c.2.1, c.2.2.1, c.2.2.2)) 271 #[takerV g] #[] celS hr HK5.out (fun _ h => celS_ok h) (fun _ _ => rfl) (fun w1 s1 _ hr hs1 => cell6_any hr hs1))
  have hk6 := manyS_ok (most := 1000) (fun _ h => celS_ok h) HK5.out
  obtain ⟨m6, hm6⟩ : ∃ n, (manyS 1000 celS s5).1 = n := ⟨_, rfl⟩
  obtain ⟨s6, hs6⟩ : ∃ t, (manyS 1000 celS s5).2 = t := ⟨_, rfl⟩
  rw [hs6] at hk6
  have HN6 := hide_ (show manyS 1000 celS s5 = (m6, s6) by rw [← hm6, ← hs6])
  simp only [HN6.out] at HC6
  have HK6 := hide_ hk6
  clear hk6 hm6 hs6
  unfold takerV at HC6
  have HC7 := hide_ (fun (u : World) (hr : Rdr u g s6.1 s6.2) => tNumber6_any hr HK6.out)
  have hk7 := (numBig_ok HK6.out).1
  have HU7 := hide_ (numBig_ok HK6.out).2
  obtain ⟨m7, hm7⟩ : ∃ n, (numBig s6).1 = n := ⟨_, rfl⟩
  obtain ⟨s7, hs7⟩ : ∃ t, (numBig s6).2 = t := ⟨_, rfl⟩
  rw [hs7] at hk7
  rw [hm7] at HU7
  have HN7 := hide_ (show numBig s6 = (m7, s7) by rw [← hm7, ← hs7])
  simp only [HN7.out] at HC7
  have HK7 := hide_ hk7
  clear hk7 hm7 hs7
  have HC8 := hide_ (fun (u : World) (hr : Rdr u g s7.1 s7.2) => manyMark6_any (w := u) (fun c => (c.1, c.2.1, c.2.2)) 273 #[takerV g] #[] mrkS hr HK7.out (fun _ h => mrkS_ok h) (fun _ _ => rfl) (fun w1 s1 _ hr hs1 => mark6_any hr hs1))
  have hk8 := manyS_ok (most := 1000) (fun _ h => mrkS_ok h) HK7.out
  obtain ⟨m8, hm8⟩ : ∃ n, (manyS 1000 mrkS s7).1 = n := ⟨_, rfl⟩
  obtain ⟨s8, hs8⟩ : ∃ t, (manyS 1000 mrkS s7).2 = t := ⟨_, rfl⟩
  rw [hs8] at hk8
  have HN8 := hide_ (show manyS 1000 mrkS s7 = (m8, s8) by rw [← hm8, ← hs8])
  simp only [HN8.out] at HC8
  have HK8 := hide_ hk8
  clear hk8 hm8 hs8
  unfold takerV at HC8
  have HP := hide_ (show regS s = ((⟨(n1 : Int), (m2 : Int), (m3 : Int), m4, m5, m6, (m7 : Int), m8⟩ : RegP), s8) by unfold regS; simp only [HN1.out, HN2.out, HN3.out, HN4.out, HN5.out, HN6.out, HN7.out, HN8.out]; rw [if_neg k0])
  rw [HP.out]
  have hd0' := hd0
  clear hd0
  unfold takerV
  go_enter Tryz.func205, Tryz.ntmps205
  go_wp2_with fail
  refine (HC1.out _ HR0.out).mono ?_
  rintro en w1 ⟨rfl, hr1, hg1⟩
  have HR1w := hide_ hr1
  have HG1w := hide_ (show w.grownBy w1 (some g) from grown_made (grown_made hg1))
  have HR1 := hide_ (hr1.made (.cells #[.int .u8 n1, .int .u64 0, .int .i64 0, .slice none 0 0, .slice none 0 0, .slice none 0 0, .int .u64 0, .slice none 0 0] 31))
  have hz12 : w.heap.size + 2 ≤ w1.heap.size := by have h := hg1.size; simpa using h
  have HBX1 := hide_ ((HFAR.out _ _ _ _ _ hg1 HBX0.out (by omega)).alloc (.cells #[.int .u8 n1, .int .u64 0, .int .i64 0, .slice none 0 0, .slice none 0 0, .slice none 0 0, .int .u64 0, .slice none 0 0] 31))
  have HZW := hide_ (HFAR.out _ _ _ _ _ hg1 HZ0.out (by omega))
  have HZ1 := hide_ ((HFAR.out _ _ _ _ _ hg1 HZ0.out (by omega)).alloc (.cells #[.int .u8 n1, .int .u64 0, .int .i64 0, .slice none 0 0, .slice none 0 0, .slice none 0 0, .int .u64 0, .slice none 0 0] 31))
  have HT1 := hide_ (BoxAt.new w1 #[.int .u8 n1, .int .u64 0, .int .i64 0, .slice none 0 0, .slice none 0 0, .slice none 0 0, .int .u64 0, .slice none 0 0] 31)
  have HG1 := hide_ (show w.grownBy (w1.alloc (.cells #[.int .u8 n1, .int .u64 0, .int .i64 0, .slice none 0 0, .slice none 0 0, .slice none 0 0, .int .u64 0, .slice none 0 0] 31)) (some g) from grown_join (grown_made (grown_made hg1)) (World.grownBy_alloc _ _ _))
  clear hr1 hg1
  have hgt : g < w1.heap.size := by omega
  have hzt : w.heap.size < w1.heap.size := by omega
  have hzt1 : w.heap.size + 1 < w1.heap.size := by omega
  have hn255 : n1 ≤ 255 := HB1.out
  have hd0 := hd0'
  clear hd0'
  clear HP HN1 HN2 HN3 HN4 HN5 HN6 HN7 HN8 k0
  have hcx := HBX1.out.cell
  have hct := HT1.out.cell
  have hlt0 : w1.heap.size < (w1.alloc (.cells #[.int .u8 n1, .int .u64 0, .int .i64 0, .slice none 0 0, .slice none 0 0, .slice none 0 0, .int .u64 0, .slice none 0 0] 31)).heap.size := by simp
  go_wp2_with fail
  clear hcx hct hlt0
  refine (HC2.out _ HR1.out).mono ?_
  rintro en v2 ⟨rfl, hr, hg⟩
  have HR2 := hide_ hr
  have HG2 := hide_ (grown_join HG1.out hg)
  have HT2 := hide_ (HFAR.out _ _ _ _ _ hg HT1.out (by omega))
  have HZ2 := hide_ (HFAR.out _ _ _ _ _ hg HZ1.out (by omega))
  have HBX2 := hide_ (HFAR.out _ _ _ _ _ hg HBX1.out (by omega))
  have HLO2 := hide_ (show w1.heap.size < _ from HT1.out.lt)
  have HSZ2 := hide_ hg.size
  clear hr hg
  have hzb2 : w1.heap.size < v2.heap.size := HT2.out.lt
  have hcx := HBX2.out.cell
  have q := (HT2.out.cell 1).trans (show _ = some (.int .u64 0 : Value) from rfl)
  have f := HT2.out.frozen 1
  have HT2s := hide_ (show BoxAt (v2.setCell ⟨w1.heap.size, 1, none⟩ (.int .u64 m2)) w1.heap.size #[.int .u8 n1, .int .u64 m2, .int .i64 0, .slice none 0 0, .slice none 0 0, .slice none 0 0, .int .u64 0, .slice none 0 0] 31 from heap_set 1 _ HT2.out)
  have HZ2s := hide_ (show BoxAt (v2.setCell ⟨w1.heap.size, 1, none⟩ (.int .u64 m2)) (w.heap.size + 1) _ 31 from (Below.heap_setCell _ ⟨w1.heap.size, 1, none⟩ _ _ (by show w.heap.size + 1 ≠ w1.heap.size; omega)).trans HZ2.out)
  have HBX2s := hide_ (show BoxAt (v2.setCell ⟨w1.heap.size, 1, none⟩ (.int .u64 m2)) w.heap.size _ 283 from (Below.heap_setCell _ ⟨w1.heap.size, 1, none⟩ _ _ (by show w.heap.size ≠ w1.heap.size; omega)).trans HBX2.out)
  have HR2s := hide_ (HR2.out.stored (b := w1.heap.size) (i := 1) (v := .int .u64 m2) hgt)
  have HG2s := hide_ (grown_stored (b := w1.heap.size) (i := 1) (v := .int .u64 m2) HG2.out (by omega))
  clear HT2 HZ2 HBX2 HR2 HG2
  go_wp2_with fail
  clear hcx q f
  refine (HC3.out _ HR2s.out).mono ?_
  rintro en v3 ⟨rfl, hr, hg⟩
  have HR3 := hide_ hr
  have HG3 := hide_ (grown_join HG2s.out hg)
  have HT3 := hide_ (HFAR.out _ _ _ _ _ hg HT2s.out (by omega))
  have HZ3 := hide_ (HFAR.out _ _ _ _ _ hg HZ2s.out (by omega))
  have HBX3 := hide_ (HFAR.out _ _ _ _ _ hg HBX2s.out (by omega))
  have HLO3 := hide_ (show w1.heap.size < _ from HT2s.out.lt)
  have HSZ3 := hide_ hg.size
  clear hr hg
  have hzb3 : w1.heap.size < v3.heap.size := HT3.out.lt
  have hcx := HBX3.out.cell
  have q := (HT3.out.cell 2).trans (show _ = some (.int .i64 0 : Value) from rfl)
  have f := HT3.out.frozen 2
  have HT3s := hide_ (show BoxAt (v3.setCell ⟨w1.heap.size, 2, none⟩ (.int .i64 m3)) w1.heap.size #[.int .u8 n1, .int .u64 m2, .int .i64 m3, .slice none 0 0, .slice none 0 0, .slice none 0 0, .int .u64 0, .slice none 0 0] 31 from heap_set 2 _ HT3.out)
  have HZ3s := hide_ (show BoxAt (v3.setCell ⟨w1.heap.size, 2, none⟩ (.int .i64 m3)) (w.heap.size + 1) _ 31 from (Below.heap_setCell _ ⟨w1.heap.size, 2, none⟩ _ _ (by show w.heap.size + 1 ≠ w1.heap.size; omega)).trans HZ3.out)
  have HBX3s := hide_ (show BoxAt (v3.setCell ⟨w1.heap.size, 2, none⟩ (.int .i64 m3)) w.heap.size _ 283 from (Below.heap_setCell _ ⟨w1.heap.size, 2, none⟩ _ _ (by show w.heap.size ≠ w1.heap.size; omega)).trans HBX3.out)
  have HR3s := hide_ (HR3.out.stored (b := w1.heap.size) (i := 2) (v := .int .i64 m3) hgt)
  have HG3s := hide_ (grown_stored (b := w1.heap.size) (i := 2) (v := .int .i64 m3) HG3.out (by omega))
  clear HT3 HZ3 HBX3 HR3 HG3
  go_wp2_with fail
  clear hcx q f
  refine (HC4.out _ HR3s.out).mono ?_
  rintro en v4 ⟨x4, rfl, hp, ho, hl, hr, hg⟩
  have HPP4 := hide_ hp
  have HOK4 := hide_ ho
  have HLI4 := hide_ hl
  clear hp ho hl
  have HR4 := hide_ hr
  have HG4 := hide_ (grown_join HG3s.out hg)
  have HT4 := hide_ (HFAR.out _ _ _ _ _ hg HT3s.out (by omega))
  have HZ4 := hide_ (HFAR.out _ _ _ _ _ hg HZ3s.out (by omega))
  have HBX4 := hide_ (HFAR.out _ _ _ _ _ hg HBX3s.out (by omega))
  have HLO4 := hide_ (show w1.heap.size < _ from HT3s.out.lt)
  have HSZ4 := hide_ hg.size
  clear hr hg
  obtain ⟨A4, c4, l4⟩ := x4
  simp only [Sl.v]
  have hzb4 : w1.heap.size < v4.heap.size := HT4.out.lt
  have hcx := HBX4.out.cell
  have q := (HT4.out.cell 3).trans (show _ = some (.slice none 0 0 : Value) from rfl)
  have f := HT4.out.frozen 3
  have HT4s := hide_ (show BoxAt (v4.setCell ⟨w1.heap.size, 3, none⟩ (.slice A4 l4.length c4)) w1.heap.size #[.int .u8 n1, .int .u64 m2, .int .i64 m3, .slice A4 l4.length c4, .slice none 0 0, .slice none 0 0, .int .u64 0, .slice none 0 0] 31 from heap_set 3 _ HT4.out)
  have HZ4s := hide_ (show BoxAt (v4.setCell ⟨w1.heap.size, 3, none⟩ (.slice A4 l4.length c4)) (w.heap.size + 1) _ 31 from (Below.heap_setCell _ ⟨w1.heap.size, 3, none⟩ _ _ (by show w.heap.size + 1 ≠ w1.heap.size; omega)).trans HZ4.out)
  have HBX4s := hide_ (show BoxAt (v4.setCell ⟨w1.heap.size, 3, none⟩ (.slice A4 l4.length c4)) w.heap.size _ 283 from (Below.heap_setCell _ ⟨w1.heap.size, 3, none⟩ _ _ (by show w.heap.size ≠ w1.heap.size; omega)).trans HBX4.out)
  have HR4s := hide_ (HR4.out.stored (b := w1.heap.size) (i := 3) (v := .slice A4 l4.length c4) hgt)
  have HG4s := hide_ (grown_stored (b := w1.heap.size) (i := 3) (v := .slice A4 l4.length c4) HG4.out (by omega))
  have HOK4 := hide_ (keep_stored ints_local (z := w1.heap.size) (i := 3) (v := .slice A4 l4.length c4) HOK4.out HLI4.out HLO4.out)
  clear HT4 HZ4 HBX4 HR4 HG4
  go_wp2_with fail
  clear hcx q f
  refine (HC5.out _ HR4s.out).mono ?_
  rintro en v5 ⟨x5, rfl, hp, ho, hl, hr, hg⟩
  have HPP5 := hide_ hp
  have HOK5 := hide_ ho
  have HLI5 := hide_ hl
  clear hp ho hl
  have HR5 := hide_ hr
  have HG5 := hide_ (grown_join HG4s.out hg)
  have HT5 := hide_ (HFAR.out _ _ _ _ _ hg HT4s.out (by omega))
  have HZ5 := hide_ (HFAR.out _ _ _ _ _ hg HZ4s.out (by omega))
  have HBX5 := hide_ (HFAR.out _ _ _ _ _ hg HBX4s.out (by omega))
  have HLO5 := hide_ (show w1.heap.size < _ from HT4s.out.lt)
  have HSZ5 := hide_ hg.size
  have HOK4 := hide_ (ints_local.grown HOK4.out hg (fun k hk e => by have := (HLI4.out k hk).1; have := HLO4.out; injection e with e; omega))
  clear hr hg
  obtain ⟨A5, c5, l5⟩ := x5
  simp only [Sl.v]
  have hzb5 : w1.heap.size < v5.heap.size := HT5.out.lt
  have hcx := HBX5.out.cell
  have q := (HT5.out.cell 4).trans (show _ = some (.slice none 0 0 : Value) from rfl)
  have f := HT5.out.frozen 4
  have HT5s := hide_ (show BoxAt (v5.setCell ⟨w1.heap.size, 4, none⟩ (.slice A5 l5.length c5)) w1.heap.size #[.int .u8 n1, .int .u64 m2, .int .i64 m3, .slice A4 l4.length c4, .slice A5 l5.length c5, .slice none 0 0, .int .u64 0, .slice none 0 0] 31 from heap_set 4 _ HT5.out)
  have HZ5s := hide_ (show BoxAt (v5.setCell ⟨w1.heap.size, 4, none⟩ (.slice A5 l5.length c5)) (w.heap.size + 1) _ 31 from (Below.heap_setCell _ ⟨w1.heap.size, 4, none⟩ _ _ (by show w.heap.size + 1 ≠ w1.heap.size; omega)).trans HZ5.out)
  have HBX5s := hide_ (show BoxAt (v5.setCell ⟨w1.heap.size, 4, none⟩ (.slice A5 l5.length c5)) w.heap.size _ 283 from (Below.heap_setCell _ ⟨w1.heap.size, 4, none⟩ _ _ (by show w.heap.size ≠ w1.heap.size; omega)).trans HBX5.out)
  have HR5s := hide_ (HR5.out.stored (b := w1.heap.size) (i := 4) (v := .slice A5 l5.length c5) hgt)
  have HG5s := hide_ (grown_stored (b := w1.heap.size) (i := 4) (v := .slice A5 l5.length c5) HG5.out (by omega))
  have HOK4 := hide_ (keep_stored ints_local (z := w1.heap.size) (i := 4) (v := .slice A5 l5.length c5) HOK4.out HLI4.out HLO4.out)
  have HOK5 := hide_ (keep_stored dns_local (z := w1.heap.size) (i := 4) (v := .slice A5 l5.length c5) HOK5.out HLI5.out HLO5.out)
  clear HT5 HZ5 HBX5 HR5 HG5
  go_wp2_with fail
  clear hcx q f
  refine (HC6.out _ HR5s.out).mono ?_
  rintro en v6 ⟨x6, rfl, hp, ho, hl, hr, hg⟩
  have HPP6 := hide_ hp
  have HOK6 := hide_ ho
  have HLI6 := hide_ hl
  clear hp ho hl
  have HR6 := hide_ hr
  have HG6 := hide_ (grown_join HG5s.out hg)
  have HT6 := hide_ (HFAR.out _ _ _ _ _ hg HT5s.out (by omega))
  have HZ6 := hide_ (HFAR.out _ _ _ _ _ hg HZ5s.out (by omega))
  have HBX6 := hide_ (HFAR.out _ _ _ _ _ hg HBX5s.out (by omega))
  have HLO6 := hide_ (show w1.heap.size < _ from HT5s.out.lt)
  have HSZ6 := hide_ hg.size
  have HOK4 := hide_ (ints_local.grown HOK4.out hg (fun k hk e => by have := (HLI4.out k hk).1; have := HLO4.out; injection e with e; omega))
  have HOK5 := hide_ (dns_local.grown HOK5.out hg (fun k hk e => by have := (HLI5.out k hk).1; have := HLO5.out; injection e with e; omega))
  clear hr hg
  obtain ⟨A6, c6, l6⟩ := x6
  simp only [Sl.v]
  have hzb6 : w1.heap.size < v6.heap.size := HT6.out.lt
  have hcx := HBX6.out.cell
  have q := (HT6.out.cell 5).trans (show _ = some (.slice none 0 0 : Value) from rfl)
  have f := HT6.out.frozen 5
  have HT6s := hide_ (show BoxAt (v6.setCell ⟨w1.heap.size, 5, none⟩ (.slice A6 l6.length c6)) w1.heap.size #[.int .u8 n1, .int .u64 m2, .int .i64 m3, .slice A4 l4.length c4, .slice A5 l5.length c5, .slice A6 l6.length c6, .int .u64 0, .slice none 0 0] 31 from heap_set 5 _ HT6.out)
  have HZ6s := hide_ (show BoxAt (v6.setCell ⟨w1.heap.size, 5, none⟩ (.slice A6 l6.length c6)) (w.heap.size + 1) _ 31 from (Below.heap_setCell _ ⟨w1.heap.size, 5, none⟩ _ _ (by show w.heap.size + 1 ≠ w1.heap.size; omega)).trans HZ6.out)
  have HBX6s := hide_ (show BoxAt (v6.setCell ⟨w1.heap.size, 5, none⟩ (.slice A6 l6.length c6)) w.heap.size _ 283 from (Below.heap_setCell _ ⟨w1.heap.size, 5, none⟩ _ _ (by show w.heap.size ≠ w1.heap.size; omega)).trans HBX6.out)
  have HR6s := hide_ (HR6.out.stored (b := w1.heap.size) (i := 5) (v := .slice A6 l6.length c6) hgt)
  have HG6s := hide_ (grown_stored (b := w1.heap.size) (i := 5) (v := .slice A6 l6.length c6) HG6.out (by omega))
  have HOK4 := hide_ (keep_stored ints_local (z := w1.heap.size) (i := 5) (v := .slice A6 l6.length c6) HOK4.out HLI4.out HLO4.out)
  have HOK5 := hide_ (keep_stored dns_local (z := w1.heap.size) (i := 5) (v := .slice A6 l6.length c6) HOK5.out HLI5.out HLO5.out)
  have HOK6 := hide_ (keep_stored cels_local (z := w1.heap.size) (i := 5) (v := .slice A6 l6.length c6) HOK6.out HLI6.out HLO6.out)
  clear HT6 HZ6 HBX6 HR6 HG6
  go_wp2_with fail
  clear hcx q f
  refine (HC7.out _ HR6s.out).mono ?_
  rintro en v7 ⟨rfl, hr, hg⟩
  have HR7 := hide_ hr
  have HG7 := hide_ (grown_join HG6s.out hg)
  have HT7 := hide_ (HFAR.out _ _ _ _ _ hg HT6s.out (by omega))
  have HZ7 := hide_ (HFAR.out _ _ _ _ _ hg HZ6s.out (by omega))
  have HBX7 := hide_ (HFAR.out _ _ _ _ _ hg HBX6s.out (by omega))
  have HLO7 := hide_ (show w1.heap.size < _ from HT6s.out.lt)
  have HSZ7 := hide_ hg.size
  have HOK4 := hide_ (ints_local.grown HOK4.out hg (fun k hk e => by have := (HLI4.out k hk).1; have := HLO4.out; injection e with e; omega))
  have HOK5 := hide_ (dns_local.grown HOK5.out hg (fun k hk e => by have := (HLI5.out k hk).1; have := HLO5.out; injection e with e; omega))
  have HOK6 := hide_ (cels_local.grown HOK6.out hg (fun k hk e => by have := (HLI6.out k hk).1; have := HLO6.out; injection e with e; omega))
  clear hr hg
  have hzb7 : w1.heap.size < v7.heap.size := HT7.out.lt
  have hcx := HBX7.out.cell
  have q := (HT7.out.cell 6).trans (show _ = some (.int .u64 0 : Value) from rfl)
  have f := HT7.out.frozen 6
  have HT7s := hide_ (show BoxAt (v7.setCell ⟨w1.heap.size, 6, none⟩ (.int .u64 m7)) w1.heap.size #[.int .u8 n1, .int .u64 m2, .int .i64 m3, .slice A4 l4.length c4, .slice A5 l5.length c5, .slice A6 l6.length c6, .int .u64 m7, .slice none 0 0] 31 from heap_set 6 _ HT7.out)
  have HZ7s := hide_ (show BoxAt (v7.setCell ⟨w1.heap.size, 6, none⟩ (.int .u64 m7)) (w.heap.size + 1) _ 31 from (Below.heap_setCell _ ⟨w1.heap.size, 6, none⟩ _ _ (by show w.heap.size + 1 ≠ w1.heap.size; omega)).trans HZ7.out)
  have HBX7s := hide_ (show BoxAt (v7.setCell ⟨w1.heap.size, 6, none⟩ (.int .u64 m7)) w.heap.size _ 283 from (Below.heap_setCell _ ⟨w1.heap.size, 6, none⟩ _ _ (by show w.heap.size ≠ w1.heap.size; omega)).trans HBX7.out)
  have HR7s := hide_ (HR7.out.stored (b := w1.heap.size) (i := 6) (v := .int .u64 m7) hgt)
  have HG7s := hide_ (grown_stored (b := w1.heap.size) (i := 6) (v := .int .u64 m7) HG7.out (by omega))
  have HOK4 := hide_ (keep_stored ints_local (z := w1.heap.size) (i := 6) (v := .int .u64 m7) HOK4.out HLI4.out HLO4.out)
  have HOK5 := hide_ (keep_stored dns_local (z := w1.heap.size) (i := 6) (v := .int .u64 m7) HOK5.out HLI5.out HLO5.out)
  have HOK6 := hide_ (keep_stored cels_local (z := w1.heap.size) (i := 6) (v := .int .u64 m7) HOK6.out HLI6.out HLO6.out)
  clear HT7 HZ7 HBX7 HR7 HG7
  go_wp2_with fail
  clear hcx q f
  refine (HC8.out _ HR7s.out).mono ?_
  rintro en v8 ⟨x8, rfl, hp, ho, hl, hr, hg⟩
  have HPP8 := hide_ hp
  have HOK8 := hide_ ho
  have HLI8 := hide_ hl
  clear hp ho hl
  have HR8 := hide_ hr
  have HG8 := hide_ (grown_join HG7s.out hg)
  have HT8 := hide_ (HFAR.out _ _ _ _ _ hg HT7s.out (by omega))
  have HZ8 := hide_ (HFAR.out _ _ _ _ _ hg HZ7s.out (by omega))
  have HBX8 := hide_ (HFAR.out _ _ _ _ _ hg HBX7s.out (by omega))
  have HLO8 := hide_ (show w1.heap.size < _ from HT7s.out.lt)
  have HSZ8 := hide_ hg.size
  have HOK4 := hide_ (ints_local.grown HOK4.out hg (fun k hk e => by have := (HLI4.out k hk).1; have := HLO4.out; injection e with e; omega))
  have HOK5 := hide_ (dns_local.grown HOK5.out hg (fun k hk e => by have := (HLI5.out k hk).1; have := HLO5.out; injection e with e; omega))
  have HOK6 := hide_ (cels_local.grown HOK6.out hg (fun k hk e => by have := (HLI6.out k hk).1; have := HLO6.out; injection e with e; omega))
  clear hr hg
  obtain ⟨A8, c8, l8⟩ := x8
  simp only [Sl.v]
  have hzb8 : w1.heap.size < v8.heap.size := HT8.out.lt
  have hcx := HBX8.out.cell
  have q := (HT8.out.cell 7).trans (show _ = some (.slice none 0 0 : Value) from rfl)
  have f := HT8.out.frozen 7
  have HT8s := hide_ (show BoxAt (v8.setCell ⟨w1.heap.size, 7, none⟩ (.slice A8 l8.length c8)) w1.heap.size #[.int .u8 n1, .int .u64 m2, .int .i64 m3, .slice A4 l4.length c4, .slice A5 l5.length c5, .slice A6 l6.length c6, .int .u64 m7, .slice A8 l8.length c8] 31 from heap_set 7 _ HT8.out)
  have HZ8s := hide_ (show BoxAt (v8.setCell ⟨w1.heap.size, 7, none⟩ (.slice A8 l8.length c8)) (w.heap.size + 1) _ 31 from (Below.heap_setCell _ ⟨w1.heap.size, 7, none⟩ _ _ (by show w.heap.size + 1 ≠ w1.heap.size; omega)).trans HZ8.out)
  have HBX8s := hide_ (show BoxAt (v8.setCell ⟨w1.heap.size, 7, none⟩ (.slice A8 l8.length c8)) w.heap.size _ 283 from (Below.heap_setCell _ ⟨w1.heap.size, 7, none⟩ _ _ (by show w.heap.size ≠ w1.heap.size; omega)).trans HBX8.out)
  have HR8s := hide_ (HR8.out.stored (b := w1.heap.size) (i := 7) (v := .slice A8 l8.length c8) hgt)
  have HG8s := hide_ (grown_stored (b := w1.heap.size) (i := 7) (v := .slice A8 l8.length c8) HG8.out (by omega))
  have HOK4 := hide_ (keep_stored ints_local (z := w1.heap.size) (i := 7) (v := .slice A8 l8.length c8) HOK4.out HLI4.out HLO4.out)
  have HOK5 := hide_ (keep_stored dns_local (z := w1.heap.size) (i := 7) (v := .slice A8 l8.length c8) HOK5.out HLI5.out HLO5.out)
  have HOK6 := hide_ (keep_stored cels_local (z := w1.heap.size) (i := 7) (v := .slice A8 l8.length c8) HOK6.out HLI6.out HLO6.out)
  have HOK8 := hide_ (keep_stored mrks_local (z := w1.heap.size) (i := 7) (v := .slice A8 l8.length c8) HOK8.out HLI8.out HLO8.out)
  clear q f hcx
  have hzb9 : w1.heap.size < (v8.setCell ⟨w1.heap.size, 7, none⟩ (.slice A8 l8.length c8)).heap.size := HT8s.out.lt
  have q7 := (HT8.out.cell 7).trans (show _ = some (Value.slice none 0 0) from rfl)
  have f7 := HT8.out.frozen 7
  have q0 := (HT8.out.cell 0).trans (show _ = some (.int .u8 n1 : Value) from rfl)
  have q1 := (HT8.out.cell 1).trans (show _ = some (.int .u64 m2 : Value) from rfl)
  have q2 := (HT8.out.cell 2).trans (show _ = some (.int .i64 m3 : Value) from rfl)
  have q3 := (HT8.out.cell 3).trans (show _ = some (.slice A4 l4.length c4 : Value) from rfl)
  have q4 := (HT8.out.cell 4).trans (show _ = some (.slice A5 l5.length c5 : Value) from rfl)
  have q5 := (HT8.out.cell 5).trans (show _ = some (.slice A6 l6.length c6 : Value) from rfl)
  have q6 := (HT8.out.cell 6).trans (show _ = some (.int .u64 m7 : Value) from rfl)
  have r0 := (HZ8.out.cell 0).trans (show _ = some (.int .u8 0 : Value) from rfl)
  have g0 := HZ8.out.frozen 0
  have r1 := (HZ8.out.cell 1).trans (show _ = some (.int .u64 0 : Value) from rfl)
  have g1 := HZ8.out.frozen 1
  have r2 := (HZ8.out.cell 2).trans (show _ = some (.int .i64 0 : Value) from rfl)
  have g2 := HZ8.out.frozen 2
  have r3 := (HZ8.out.cell 3).trans (show _ = some (.slice none 0 0 : Value) from rfl)
  have g3 := HZ8.out.frozen 3
  have r4 := (HZ8.out.cell 4).trans (show _ = some (.slice none 0 0 : Value) from rfl)
  have g4 := HZ8.out.frozen 4
  have r5 := (HZ8.out.cell 5).trans (show _ = some (.slice none 0 0 : Value) from rfl)
  have g5 := HZ8.out.frozen 5
  have r6 := (HZ8.out.cell 6).trans (show _ = some (.int .u64 0 : Value) from rfl)
  have g6 := HZ8.out.frozen 6
  have r7 := (HZ8.out.cell 7).trans (show _ = some (.slice none 0 0 : Value) from rfl)
  have g7 := HZ8.out.frozen 7
  go_wp2
  refine bodyPost_ret (v := .agg #[.int .u8 n1, .int .u64 m2, .int .i64 m3, .slice A4 l4.length c4, .slice A5 l5.length c5, .slice A6 l6.length c6, .int .u64 m7, .slice A8 l8.length c8]) (by simp [results, Tryz.results205, go_sem, r0, r1, r2, r3, r4, r5, r6, r7]) rfl ?_
  clear q7 f7 q0 q1 q2 q3 q4 q5 q6 r0 g0 r1 g1 r2 g2 r3 g3 r4 g4 r5 g5 r6 g6 r7 g7
  have I : ∀ n : Nat, n ≤ 1000 → I64 (n : Int) := fun n h => by unfold I64; simp; omega
  have hlo4 : w.heap.size + 1 < _ := Nat.lt_trans hzt1 HLO4.out
  have hlo5 : w.heap.size + 1 < _ := Nat.lt_trans hzt1 HLO5.out
  have hlo6 : w.heap.size + 1 < _ := Nat.lt_trans hzt1 HLO6.out
  have hlo8 : w.heap.size + 1 < _ := Nat.lt_trans hzt1 HLO8.out
  have HPD := hide_ (show l6.map (fun c => (c.1, c.2.1, c.2.2.1, c.2.2.2)) = m6 from HPP6.out)
  have HPM := hide_ (show l8.map (fun c => (c.1, c.2.1, c.2.2)) = m8 from HPP8.out)
  refine ⟨⟨(n1 : Int), (m2 : Int), (m3 : Int), ⟨A4, c4, l4⟩, ⟨A5, c5, l5⟩, ⟨A6, c6, l6⟩, (m7 : Int), ⟨A8, c8, l8⟩⟩, rfl, ?_, ⟨⟨by unfold U8; simp; omega, HU2.out, I _ HU3.out, HU7.out⟩, (keep_stored ints_local (keep_stored ints_local (keep_stored ints_local (keep_stored ints_local (keep_stored ints_local (keep_stored ints_local (keep_stored ints_local (keep_stored ints_local HOK4.out HLI4.out hlo4) HLI4.out hlo4) HLI4.out hlo4) HLI4.out hlo4) HLI4.out hlo4) HLI4.out hlo4) HLI4.out hlo4) HLI4.out hlo4), (keep_stored dns_local (keep_stored dns_local (keep_stored dns_local (keep_stored dns_local (keep_stored dns_local (keep_stored dns_local (keep_stored dns_local (keep_stored dns_local HOK5.out HLI5.out hlo5) HLI5.out hlo5) HLI5.out hlo5) HLI5.out hlo5) HLI5.out hlo5) HLI5.out hlo5) HLI5.out hlo5) HLI5.out hlo5), (keep_stored cels_local (keep_stored cels_local (keep_stored cels_local (keep_stored cels_local (keep_stored cels_local (keep_stored cels_local (keep_stored cels_local (keep_stored cels_local HOK6.out HLI6.out hlo6) HLI6.out hlo6) HLI6.out hlo6) HLI6.out hlo6) HLI6.out hlo6) HLI6.out hlo6) HLI6.out hlo6) HLI6.out hlo6), (keep_stored mrks_local (keep_stored mrks_local (keep_stored mrks_local (keep_stored mrks_local (keep_stored mrks_local (keep_stored mrks_local (keep_stored mrks_local (keep_stored mrks_local HOK8.out HLI8.out hlo8) HLI8.out hlo8) HLI8.out hlo8) HLI8.out hlo8) HLI8.out hlo8) HLI8.out hlo8) HLI8.out hlo8) HLI8.out hlo8)⟩, ?_, ((((((((HR8s.out.stored (by omega)).stored (by omega)).stored (by omega)).stored (by omega)).stored (by omega)).stored (by omega)).stored (by omega)).stored (by omega)), (grown_stored (grown_stored (grown_stored (grown_stored (grown_stored (grown_stored (grown_stored (grown_stored HG8s.out (by omega)) (by omega)) (by omega)) (by omega)) (by omega)) (by omega)) (by omega)) (by omega))⟩
  · unfold RegM.p
    rw [← show l4 = m4 from HPP4.out, ← show l5.map DoneM.p = m5 from HPP5.out, ← HPD.out, ← HPM.out]
    simp
  · intro k hk
    have e9 : v8.heap.size = (((((((((v8.setCell ⟨w1.heap.size, 7, none⟩ (.slice A8 l8.length c8)).setCell ⟨w.heap.size + 1, 0, none⟩ (.int .u8 n1)).setCell ⟨w.heap.size + 1, 1, none⟩ (.int .u64 m2)).setCell ⟨w.heap.size + 1, 2, none⟩ (.int .i64 m3)).setCell ⟨w.heap.size + 1, 3, none⟩ (.slice A4 l4.length c4)).setCell ⟨w.heap.size + 1, 4, none⟩ (.slice A5 l5.length c5)).setCell ⟨w.heap.size + 1, 5, none⟩ (.slice A6 l6.length c6)).setCell ⟨w.heap.size + 1, 6, none⟩ (.int .u64 m7)).setCell ⟨w.heap.size + 1, 7, none⟩ (.slice A8 l8.length c8)).heap.size := by simp [World.setCell]
    rw [← e9]
    have h5 : v4.heap.size ≤ v5.heap.size := by have := HSZ5.out; simpa [World.setCell] using this
    have h6 : v5.heap.size ≤ v6.heap.size := by have := HSZ6.out; simpa [World.setCell] using this
    have h7 : v6.heap.size ≤ v7.heap.size := by have := HSZ7.out; simpa [World.setCell] using this
    have h8 : v7.heap.size ≤ v8.heap.size := by have := HSZ8.out; simpa [World.setCell] using this
    have o4 := HLO4.out
    have o5 := HLO5.out
    have o6 := HLO6.out
    have o8 := HLO8.out
    rcases hk with hk | hk | hk | hk
    · have := HLI4.out k hk
      omega
    · have := HLI5.out k hk
      omega
    · have := HLI6.out k hk
      omega
    · have := HLI8.out k hk
      omega

end Go.Proofs.YtnkjdijbfnmnhaaGreat
