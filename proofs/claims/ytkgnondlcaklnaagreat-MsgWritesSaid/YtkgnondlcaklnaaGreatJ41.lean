/-
  Texts of this claim put together: Tk6Rep, Tk6Don, Tk6Cel, Tk6Mrk, Tk5b, Tk5c.
-/
import Derived.Test.YtkgnondlcaklnaaGreatJ32
import Derived.Test.YtkgnondlcaklnaaGreatJ31
import Derived.Deep.RegionHeldLaw
import Derived.IntWalk
import Derived.Deep.DeepCutAuto
/-
  Contract of reg's taker's method: Rep.
-/
namespace Go.Proofs.YtkgnondlcaklnaaGreat
open Go.RowKit

set_option maxRecDepth 100000 in
set_option maxHeartbeats 6400000 in
theorem reply6_any {g : Nat} {s : RS} {w : World} (h : Rdr w g s.1 s.2) (hs : RSok s) : Calls Tryz.prog 207 #[takerV g] w (PartR RepM.v RepM.p RepM.ok RepM.ft w g (repS s)) := by
  have hgl : g < w.heap.size := h.glt
  have hb1 := (numS_ok (most := 1000) hs).2
  have hk1 := (numS_ok (most := 1000) hs).1
  have HC1 := hide_ (fun (u : World) (hr : Rdr u g s.1 s.2) => tOther6_any hr hs)
  obtain ⟨n1, hn1⟩ : ∃ n, (numS 1000 s).1 = n := ⟨_, rfl⟩
  obtain ⟨s1, hs1⟩ : ∃ t, (numS 1000 s).2 = t := ⟨_, rfl⟩
  rw [hn1] at hb1
  rw [hs1] at hk1
  simp only [hn1, hs1] at HC1
  have hb2 := (numBig_ok hk1).2
  have hk2 := (numBig_ok hk1).1
  have HC2 := hide_ (fun (u : World) (hr : Rdr u g s1.1 s1.2) => tNumber6_any hr hk1)
  obtain ⟨n2, hn2⟩ : ∃ n, (numBig s1).1 = n := ⟨_, rfl⟩
  obtain ⟨s2, hs2⟩ : ∃ t, (numBig s1).2 = t := ⟨_, rfl⟩
  rw [hn2] at hb2
  rw [hs2] at hk2
  simp only [hn2, hs2] at HC2
  have hb3 := (numS_ok (most := 1000) hk2).2
  have hk3 := (numS_ok (most := 1000) hk2).1
  have HC3 := hide_ (fun (u : World) (hr : Rdr u g s2.1 s2.2) => tOther6_any hr hk2)
  obtain ⟨n3, hn3⟩ : ∃ n, (numS 1000 s2).1 = n := ⟨_, rfl⟩
  obtain ⟨s3, hs3⟩ : ∃ t, (numS 1000 s2).2 = t := ⟨_, rfl⟩
  rw [hn3] at hb3
  rw [hs3] at hk3
  simp only [hn3, hs3] at HC3
  have hk4 := varS_ok hk3
  have HC4 := hide_ (fun (u : World) (hr : Rdr u g s3.1 s3.2) => intsOf6_any hr hk3)
  obtain ⟨n4, hn4⟩ : ∃ n, (varS s3).1 = n := ⟨_, rfl⟩
  obtain ⟨s4, hs4⟩ : ∃ t, (varS s3).2 = t := ⟨_, rfl⟩
  rw [hs4] at hk4
  simp only [show varS s3 = (n4, s4) by rw [← hn4, ← hs4]] at HC4
  have HP := hide_ (show repS s = ((((n1 : Int), (n2 : Int), (n3 : Int), n4) : RepP), s4) by unfold repS; simp only [hn1, hs1, hn2, hs2, hn3, hs3, hn4, hs4])
  have HB1 := hide_ hb1
  have HB2 := hide_ hb2
  have HB3 := hide_ hb3
  rw [HP.out]
  have HG0 := hide_ (World.grownBy.refl ((w.alloc (.cells #[.pointer (some ⟨g, 0, none⟩)] 170)).alloc (.cells #[.int .i64 0, .int .u64 0, .int .i64 0, .slice none 0 0] 38)).drew (some g))
  have HR0 := hide_ (show Rdr ((w.alloc (.cells #[.pointer (some ⟨g, 0, none⟩)] 170)).alloc (.cells #[.int .i64 0, .int .u64 0, .int .i64 0, .slice none 0 0] 38)).drew g s.1 s.2 from ((h.made _).made _).drawn)
  have HBX := hide_ (fun (u : World) (hu : (w.alloc (.cells #[.pointer (some ⟨g, 0, none⟩)] 170)).grownBy u (some g)) => show u.cell? ⟨w.heap.size, 0, none⟩ = some (.pointer (some ⟨g, 0, none⟩)) by
    have h1 := BoxAt.new w #[.pointer (some ⟨g, 0, none⟩)] 170
    exact cell_of_row _ _ 0 _ _ _ (box_far hu h1 (by omega)))
  have HZ := hide_ (fun (u : World) (hu : ((w.alloc (.cells #[.pointer (some ⟨g, 0, none⟩)] 170)).alloc (.cells #[.int .i64 0, .int .u64 0, .int .i64 0, .slice none 0 0] 38)).drew.grownBy u (some g)) => show u.heap[w.heap.size + 1]? = some (.cells #[.int .i64 0, .int .u64 0, .int .i64 0, .slice none 0 0] 38 (0, 0)) from box_far hu (by
    have := BoxAt.new (w.alloc (.cells #[.pointer (some ⟨g, 0, none⟩)] 170)) #[.int .i64 0, .int .u64 0, .int .i64 0, .slice none 0 0] 38
    have h2 : ((w.alloc (.cells #[.pointer (some ⟨g, 0, none⟩)] 170)).alloc (.cells #[.int .i64 0, .int .u64 0, .int .i64 0, .slice none 0 0] 38)).heap[w.heap.size + 1]? = some (.cells #[.int .i64 0, .int .u64 0, .int .i64 0, .slice none 0 0] 38 (0, 0)) := by simpa [BoxAt] using this
    exact h2) (by omega))
  clear h hs hn1 hn2 hn3 hn4 hs1 hs2 hs3 hs4 hk1 hk2 hk3 hk4
  unfold takerV
  go_enter Tryz.func207, Tryz.ntmps207
  go_wp2
  refine wp_region_held_drew (S := fun w' => w'.cell? ⟨w.heap.size, 0, none⟩ = some (.pointer (some ⟨g, 0, none⟩))) (by kernel_rfl) (HBX.out _ (grown_made (grown_ndrew HG0.out))) (fun hHeld => ?_)
  refine wpAnyH_take (i := 0) (oi := ⟨some 3, _, _, _, _, _⟩) (v := ?v1) rfl (by kernel_rfl) (by kernel_rfl) (by kernel_rfl) (fun _ _ _ h => h) (Or.inl ⟨by rfl, ?hy1⟩) (by assumption) ?rest1
  case hy1 => intro w hSw; (try dsimp only at hSw); go_simp <;> with_reducible rfl
  simp only [Act.put, List.setIfInBounds_toArray, List.set_cons_zero, List.set_cons_succ]
  refine wpAnyH_take (i := 2) (oi := ⟨some 5, _, _, _, _, _⟩) (v := ?v2) rfl (by kernel_rfl) (by kernel_rfl) (by kernel_rfl) (fun _ _ _ h => h) (Or.inl ⟨by rfl, ?hy2⟩) (by assumption) ?rest2
  case hy2 => intro w hSw; (try dsimp only at hSw); go_simp <;> with_reducible rfl
  simp only [Act.put, List.setIfInBounds_toArray, List.set_cons_zero, List.set_cons_succ]
  refine wpAnyH_take (i := 4) (oi := ⟨some 7, _, _, _, _, _⟩) (v := ?v3) rfl (by kernel_rfl) (by kernel_rfl) (by kernel_rfl) (fun _ _ _ h => h) (Or.inl ⟨by rfl, ?hy3⟩) (by assumption) ?rest3
  case hy3 => intro w hSw; (try dsimp only at hSw); go_simp <;> with_reducible rfl
  simp only [Act.put, List.setIfInBounds_toArray, List.set_cons_zero, List.set_cons_succ]
  refine wpAnyH_take (i := 6) (oi := ⟨some 9, _, _, _, _, _⟩) (v := ?v4) rfl (by kernel_rfl) (by kernel_rfl) (by kernel_rfl) (fun _ _ _ h => h) (Or.inl ⟨by rfl, ?hy4⟩) (by assumption) ?rest4
  case hy4 => intro w hSw; (try dsimp only at hSw); go_simp <;> with_reducible rfl
  simp only [Act.put, List.setIfInBounds_toArray, List.set_cons_zero, List.set_cons_succ]
  refine wpAnyH_take (i := 7) (oi := ⟨some 10, _, _, _, _, _⟩) (v := ?v5) rfl (by kernel_rfl) (by kernel_rfl) (by kernel_rfl) (fun _ _ _ h => h) (Or.inl ⟨by rfl, ?hy5⟩) (by assumption) ?rest5
  case hy5 => intro w hSw; (try dsimp only at hSw); go_simp <;> with_reducible rfl
  simp only [Act.put, List.setIfInBounds_toArray, List.set_cons_zero, List.set_cons_succ]
  refine wpAnyH_take (i := 8) (oi := ⟨some 11, _, _, _, _, _⟩) (v := ?v6) rfl (by kernel_rfl) (by kernel_rfl) (by kernel_rfl) (fun _ _ _ h => h) (Or.inl ⟨by rfl, ?hy6⟩) (by assumption) ?rest6
  case hy6 => intro w hSw; (try dsimp only at hSw); go_simp <;> with_reducible rfl
  simp only [Act.put, List.setIfInBounds_toArray, List.set_cons_zero, List.set_cons_succ]
  refine wpAnyH_take (i := 9) (oi := ⟨some 12, _, _, _, _, _⟩) (v := ?v7) rfl (by kernel_rfl) (by kernel_rfl) (by kernel_rfl) (fun _ _ _ h => h) (Or.inl ⟨by rfl, ?hy7⟩) (by assumption) ?rest7
  case hy7 => intro w hSw; (try dsimp only at hSw); go_simp <;> with_reducible rfl
  simp only [Act.put, List.setIfInBounds_toArray, List.set_cons_zero, List.set_cons_succ]
  refine wpAnyH_ready (rs := [1]) (by kernel_rfl) (by simp) ?_
  refine AllReadyH.cons rfl (fun K hK => ?_) AllReadyH.nil
  go_simp
  go_wp2_with fail
  refine (HC1.out _ HR0.out).mono ?_
  rintro en w1 ⟨rfl, hr1, hg1⟩
  have HR1 := hide_ hr1
  have HG1 := hide_ (grown_join HG0.out hg1)
  clear hr1 hg1
  refine hK.out _ _ (HBX.out _ (grown_made (grown_ndrew HG1.out))) (fun hHeld => ?_)
  clear hK K
  refine wpAnyH_ready (rs := [3]) (by kernel_rfl) (by simp) ?_
  refine AllReadyH.cons rfl (fun K hK => ?_) AllReadyH.nil
  go_simp
  go_wp2_with fail
  refine (HC2.out _ HR1.out).mono ?_
  rintro en w2 ⟨rfl, hr2, hg2⟩
  have HR2 := hide_ hr2
  have HG2 := hide_ (grown_join HG1.out hg2)
  clear hr2 hg2
  refine hK.out _ _ (HBX.out _ (grown_made (grown_ndrew HG2.out))) (fun hHeld => ?_)
  clear hK K
  refine wpAnyH_ready (rs := [5]) (by kernel_rfl) (by simp) ?_
  refine AllReadyH.cons rfl (fun K hK => ?_) AllReadyH.nil
  go_simp
  go_wp2_with fail
  refine (HC3.out _ HR2.out).mono ?_
  rintro en w3 ⟨rfl, hr3, hg3⟩
  have HR3 := hide_ hr3
  have HG3 := hide_ (grown_join HG2.out hg3)
  clear hr3 hg3
  refine hK.out _ _ (HBX.out _ (grown_made (grown_ndrew HG3.out))) (fun hHeld => ?_)
  clear hK K
  refine wpAnyH_ready (rs := [10]) (by kernel_rfl) (by simp) ?_
  refine AllReadyH.cons rfl (fun K hK => ?_) AllReadyH.nil
  go_simp
  go_wp2_with fail
  refine (HC4.out _ HR3.out).mono ?_
  rintro en w4 ⟨x4, rfl, hp4, ho4, hl4, hr4, hg4⟩
  obtain ⟨xA4, xc4, xl4⟩ := x4
  simp only [Sl.v]
  have HPP4 := hide_ hp4
  have HOK4 := hide_ ho4
  have HLI4 := hide_ hl4
  clear hp4 ho4 hl4
  have HR4 := hide_ hr4
  have HG4 := hide_ (grown_join HG3.out hg4)
  clear hr4 hg4
  refine hK.out _ _ (HBX.out _ (grown_made (grown_ndrew HG4.out))) (fun hHeld => ?_)
  clear hK K
  refine wpAnyH_take (i := 11) (oi := ⟨some 14, _, _, _, _, _⟩) (v := ?v8) rfl (by kernel_rfl) (by kernel_rfl) (by kernel_rfl) (fun _ _ _ h => h) (Or.inl ⟨by rfl, ?hy8⟩) (by assumption) ?rest8
  case hy8 => intro w hSw; (try dsimp only at hSw); go_simp <;> with_reducible rfl
  simp only [Act.put, List.setIfInBounds_toArray, List.set_cons_zero, List.set_cons_succ]
  have hkz := HZ.out _ HG4.out
  have q0 : w4.cell? ⟨w.heap.size + 1, 0, none⟩ = some (.int .i64 0) := by rw [cell_of_row _ _ 0 _ _ _ hkz]; rfl
  have f0 : w4.frozen? ⟨w.heap.size + 1, 0, none⟩ = false := by simp [World.frozen?, hkz]
  have q1 : w4.cell? ⟨w.heap.size + 1, 1, none⟩ = some (.int .u64 0) := by rw [cell_of_row _ _ 1 _ _ _ hkz]; rfl
  have f1 : w4.frozen? ⟨w.heap.size + 1, 1, none⟩ = false := by simp [World.frozen?, hkz]
  have q2 : w4.cell? ⟨w.heap.size + 1, 2, none⟩ = some (.int .i64 0) := by rw [cell_of_row _ _ 2 _ _ _ hkz]; rfl
  have f2 : w4.frozen? ⟨w.heap.size + 1, 2, none⟩ = false := by simp [World.frozen?, hkz]
  have q3 : w4.cell? ⟨w.heap.size + 1, 3, none⟩ = some (.slice none 0 0) := by rw [cell_of_row _ _ 3 _ _ _ hkz]; rfl
  have f3 : w4.frozen? ⟨w.heap.size + 1, 3, none⟩ = false := by simp [World.frozen?, hkz]
  clear hkz
  refine wpAnyH_ready (rs := [12]) (by kernel_rfl) (by simp) ?_
  refine AllReadyH.cons rfl (fun K hK => ?_) AllReadyH.nil
  go_simp
  refine hK.out _ _ (HBX.out _ (grown_stored (grown_stored (grown_stored (grown_stored (grown_made (grown_ndrew HG4.out)) (by simp)) (by simp)) (by simp)) (by simp))) (fun hHeld => ?_)
  clear hK K
  refine wpAnyH_done (by kernel_rfl) ?_ _
  go_wp2
  refine bodyPost_ret (v := .agg #[.int .i64 n1, .int .u64 n2, .int .i64 n3, .slice xA4 xl4.length xc4]) (by simp [results, Tryz.results207, go_sem, q0, q1, q2, q3]) rfl ?_
  clear q0 f0 q1 f1 q2 f2 q3 f3
  have hzp : w.heap.size + 1 < w3.heap.size := by
    have h1 := HG3.out.size
    simp at h1
    omega
  refine ⟨⟨n1, n2, n3, xA4, xc4, xl4⟩, rfl, by rw [← HPP4.out]; rfl, ⟨⟨by have := HB1.out; unfold I64; simp; omega, HB2.out, by have := HB3.out; unfold I64; simp; omega⟩, (keep_stored ints_local (keep_stored ints_local (keep_stored ints_local (keep_stored ints_local HOK4.out HLI4.out hzp) HLI4.out hzp) HLI4.out hzp) HLI4.out hzp)⟩, HLI4.out.more (by omega) (by simp), ((((HR4.out.stored (by omega)).stored (by omega)).stored (by omega)).stored (by omega)), (grown_stored (grown_stored (grown_stored (grown_stored (grown_made (grown_made (grown_ndrew HG4.out))) (Nat.le_succ _)) (Nat.le_succ _)) (Nat.le_succ _)) (Nat.le_succ _))⟩

end Go.Proofs.YtkgnondlcaklnaaGreat

/-
  Contract of reg's taker's method: Don.
-/
namespace Go.Proofs.YtkgnondlcaklnaaGreat
open Go.RowKit

set_option maxRecDepth 100000 in
set_option maxHeartbeats 6400000 in
theorem done6_any {g : Nat} {s : RS} {w : World} (h : Rdr w g s.1 s.2) (hs : RSok s) : Calls Tryz.prog 168 #[takerV g] w (PartR DoneM.v DoneM.p DoneM.ok DoneM.ft w g (doneS s)) := by
  have hgl : g < w.heap.size := h.glt
  have hb1 := (numS_ok (most := 255) hs).2
  have hk1 := (numS_ok (most := 255) hs).1
  have HC1 := hide_ (fun (u : World) (hr : Rdr u g s.1 s.2) => tSmall6_any hr hs)
  obtain ⟨n1, hn1⟩ : ∃ n, (numS 255 s).1 = n := ⟨_, rfl⟩
  obtain ⟨s1, hs1⟩ : ∃ t, (numS 255 s).2 = t := ⟨_, rfl⟩
  rw [hn1] at hb1
  rw [hs1] at hk1
  simp only [hn1, hs1] at HC1
  have hb2 := (numBig_ok hk1).2
  have hk2 := (numBig_ok hk1).1
  have HC2 := hide_ (fun (u : World) (hr : Rdr u g s1.1 s1.2) => tNumber6_any hr hk1)
  obtain ⟨n2, hn2⟩ : ∃ n, (numBig s1).1 = n := ⟨_, rfl⟩
  obtain ⟨s2, hs2⟩ : ∃ t, (numBig s1).2 = t := ⟨_, rfl⟩
  rw [hn2] at hb2
  rw [hs2] at hk2
  simp only [hn2, hs2] at HC2
  have hk3 := repS_ok hk2
  have HC3 := hide_ (fun (u : World) (hr : Rdr u g s2.1 s2.2) => reply6_any hr hk2)
  obtain ⟨n3, hn3⟩ : ∃ n, (repS s2).1 = n := ⟨_, rfl⟩
  obtain ⟨s3, hs3⟩ : ∃ t, (repS s2).2 = t := ⟨_, rfl⟩
  rw [hs3] at hk3
  simp only [show repS s2 = (n3, s3) by rw [← hn3, ← hs3]] at HC3
  have HP := hide_ (show doneS s = ((((n1 : Int), (n2 : Int), n3) : DoneP), s3) by unfold doneS; simp only [hn1, hs1, hn2, hs2, hn3, hs3])
  have HB1 := hide_ hb1
  have HB2 := hide_ hb2
  rw [HP.out]
  have HG0 := hide_ (World.grownBy.refl ((w.alloc (.cells #[.pointer (some ⟨g, 0, none⟩)] 170)).alloc (.cells #[.int .u8 0, .int .u64 0, .int .i64 0, .int .u64 0, .int .i64 0, .slice none 0 0] 72)).drew (some g))
  have HR0 := hide_ (show Rdr ((w.alloc (.cells #[.pointer (some ⟨g, 0, none⟩)] 170)).alloc (.cells #[.int .u8 0, .int .u64 0, .int .i64 0, .int .u64 0, .int .i64 0, .slice none 0 0] 72)).drew g s.1 s.2 from ((h.made _).made _).drawn)
  have HBX := hide_ (fun (u : World) (hu : (w.alloc (.cells #[.pointer (some ⟨g, 0, none⟩)] 170)).grownBy u (some g)) => show u.cell? ⟨w.heap.size, 0, none⟩ = some (.pointer (some ⟨g, 0, none⟩)) by
    have h1 := BoxAt.new w #[.pointer (some ⟨g, 0, none⟩)] 170
    exact cell_of_row _ _ 0 _ _ _ (box_far hu h1 (by omega)))
  have HZ := hide_ (fun (u : World) (hu : ((w.alloc (.cells #[.pointer (some ⟨g, 0, none⟩)] 170)).alloc (.cells #[.int .u8 0, .int .u64 0, .int .i64 0, .int .u64 0, .int .i64 0, .slice none 0 0] 72)).drew.grownBy u (some g)) => show u.heap[w.heap.size + 1]? = some (.cells #[.int .u8 0, .int .u64 0, .int .i64 0, .int .u64 0, .int .i64 0, .slice none 0 0] 72 (0, 0)) from box_far hu (by
    have := BoxAt.new (w.alloc (.cells #[.pointer (some ⟨g, 0, none⟩)] 170)) #[.int .u8 0, .int .u64 0, .int .i64 0, .int .u64 0, .int .i64 0, .slice none 0 0] 72
    have h2 : ((w.alloc (.cells #[.pointer (some ⟨g, 0, none⟩)] 170)).alloc (.cells #[.int .u8 0, .int .u64 0, .int .i64 0, .int .u64 0, .int .i64 0, .slice none 0 0] 72)).heap[w.heap.size + 1]? = some (.cells #[.int .u8 0, .int .u64 0, .int .i64 0, .int .u64 0, .int .i64 0, .slice none 0 0] 72 (0, 0)) := by simpa [BoxAt] using this
    exact h2) (by omega))
  clear h hs hn1 hn2 hn3 hs1 hs2 hs3 hk1 hk2 hk3
  unfold takerV
  go_enter Tryz.func168, Tryz.ntmps168
  go_wp2
  refine wp_region_held_drew (S := fun w' => w'.cell? ⟨w.heap.size, 0, none⟩ = some (.pointer (some ⟨g, 0, none⟩))) (by kernel_rfl) (HBX.out _ (grown_made (grown_ndrew HG0.out))) (fun hHeld => ?_)
  refine wpAnyH_take (i := 0) (oi := ⟨some 3, _, _, _, _, _⟩) (v := ?v1) rfl (by kernel_rfl) (by kernel_rfl) (by kernel_rfl) (fun _ _ _ h => h) (Or.inl ⟨by rfl, ?hy1⟩) (by assumption) ?rest1
  case hy1 => intro w hSw; (try dsimp only at hSw); go_simp <;> with_reducible rfl
  simp only [Act.put, List.setIfInBounds_toArray, List.set_cons_zero, List.set_cons_succ]
  refine wpAnyH_take (i := 2) (oi := ⟨some 5, _, _, _, _, _⟩) (v := ?v2) rfl (by kernel_rfl) (by kernel_rfl) (by kernel_rfl) (fun _ _ _ h => h) (Or.inl ⟨by rfl, ?hy2⟩) (by assumption) ?rest2
  case hy2 => intro w hSw; (try dsimp only at hSw); go_simp <;> with_reducible rfl
  simp only [Act.put, List.setIfInBounds_toArray, List.set_cons_zero, List.set_cons_succ]
  refine wpAnyH_take (i := 4) (oi := ⟨some 7, _, _, _, _, _⟩) (v := ?v3) rfl (by kernel_rfl) (by kernel_rfl) (by kernel_rfl) (fun _ _ _ h => h) (Or.inl ⟨by rfl, ?hy3⟩) (by assumption) ?rest3
  case hy3 => intro w hSw; (try dsimp only at hSw); go_simp <;> with_reducible rfl
  simp only [Act.put, List.setIfInBounds_toArray, List.set_cons_zero, List.set_cons_succ]
  refine wpAnyH_ready (rs := [1]) (by kernel_rfl) (by simp) ?_
  refine AllReadyH.cons rfl (fun K hK => ?_) AllReadyH.nil
  go_simp
  go_wp2_with fail
  refine (HC1.out _ HR0.out).mono ?_
  rintro en w1 ⟨rfl, hr1, hg1⟩
  have HR1 := hide_ hr1
  have HG1 := hide_ (grown_join HG0.out hg1)
  clear hr1 hg1
  refine hK.out _ _ (HBX.out _ (grown_made (grown_ndrew HG1.out))) (fun hHeld => ?_)
  clear hK K
  refine wpAnyH_ready (rs := [3]) (by kernel_rfl) (by simp) ?_
  refine AllReadyH.cons rfl (fun K hK => ?_) AllReadyH.nil
  go_simp
  go_wp2_with fail
  refine (HC2.out _ HR1.out).mono ?_
  rintro en w2 ⟨rfl, hr2, hg2⟩
  have HR2 := hide_ hr2
  have HG2 := hide_ (grown_join HG1.out hg2)
  clear hr2 hg2
  refine hK.out _ _ (HBX.out _ (grown_made (grown_ndrew HG2.out))) (fun hHeld => ?_)
  clear hK K
  refine wpAnyH_ready (rs := [5]) (by kernel_rfl) (by simp) ?_
  refine AllReadyH.cons rfl (fun K hK => ?_) AllReadyH.nil
  go_simp
  go_wp2_with fail
  refine (HC3.out _ HR2.out).mono ?_
  rintro en w3 ⟨x3, rfl, hp3, ho3, hl3, hr3, hg3⟩
  obtain ⟨xe3, xi3, xs3, ⟨xA3, xc3, xl3⟩⟩ := x3
  simp only [RepM.v, Sl.v]
  have HPP3 := hide_ hp3
  have HOK3 := hide_ ho3
  have HLI3 := hide_ hl3
  clear hp3 ho3 hl3
  have HR3 := hide_ hr3
  have HG3 := hide_ (grown_join HG2.out hg3)
  clear hr3 hg3
  refine hK.out _ _ (HBX.out _ (grown_made (grown_ndrew HG3.out))) (fun hHeld => ?_)
  clear hK K
  refine wpAnyH_take (i := 6) (oi := ⟨some 9, _, _, _, _, _⟩) (v := ?v4) rfl (by kernel_rfl) (by kernel_rfl) (by kernel_rfl) (fun _ _ _ h => h) (Or.inl ⟨by rfl, ?hy4⟩) (by assumption) ?rest4
  case hy4 => intro w hSw; (try dsimp only at hSw); go_simp <;> with_reducible rfl
  simp only [Act.put, List.setIfInBounds_toArray, List.set_cons_zero, List.set_cons_succ]
  have hkz := HZ.out _ HG3.out
  have q0 : w3.cell? ⟨w.heap.size + 1, 0, none⟩ = some (.int .u8 0) := by rw [cell_of_row _ _ 0 _ _ _ hkz]; rfl
  have f0 : w3.frozen? ⟨w.heap.size + 1, 0, none⟩ = false := by simp [World.frozen?, hkz]
  have q1 : w3.cell? ⟨w.heap.size + 1, 1, none⟩ = some (.int .u64 0) := by rw [cell_of_row _ _ 1 _ _ _ hkz]; rfl
  have f1 : w3.frozen? ⟨w.heap.size + 1, 1, none⟩ = false := by simp [World.frozen?, hkz]
  have q2 : w3.cell? ⟨w.heap.size + 1, 2, none⟩ = some (.int .i64 0) := by rw [cell_of_row _ _ 2 _ _ _ hkz]; rfl
  have f2 : w3.frozen? ⟨w.heap.size + 1, 2, none⟩ = false := by simp [World.frozen?, hkz]
  have q3 : w3.cell? ⟨w.heap.size + 1, 3, none⟩ = some (.int .u64 0) := by rw [cell_of_row _ _ 3 _ _ _ hkz]; rfl
  have f3 : w3.frozen? ⟨w.heap.size + 1, 3, none⟩ = false := by simp [World.frozen?, hkz]
  have q4 : w3.cell? ⟨w.heap.size + 1, 4, none⟩ = some (.int .i64 0) := by rw [cell_of_row _ _ 4 _ _ _ hkz]; rfl
  have f4 : w3.frozen? ⟨w.heap.size + 1, 4, none⟩ = false := by simp [World.frozen?, hkz]
  have q5 : w3.cell? ⟨w.heap.size + 1, 5, none⟩ = some (.slice none 0 0) := by rw [cell_of_row _ _ 5 _ _ _ hkz]; rfl
  have f5 : w3.frozen? ⟨w.heap.size + 1, 5, none⟩ = false := by simp [World.frozen?, hkz]
  clear hkz
  refine wpAnyH_ready (rs := [7]) (by kernel_rfl) (by simp) ?_
  refine AllReadyH.cons rfl (fun K hK => ?_) AllReadyH.nil
  go_simp
  refine hK.out _ _ (HBX.out _ (grown_stored (grown_stored (grown_stored (grown_stored (grown_stored (grown_stored (grown_made (grown_ndrew HG3.out)) (by simp)) (by simp)) (by simp)) (by simp)) (by simp)) (by simp))) (fun hHeld => ?_)
  clear hK K
  refine wpAnyH_done (by kernel_rfl) ?_ _
  go_wp2
  refine bodyPost_ret (v := .agg #[.int .u8 n1, .int .u64 n2, .int .i64 xe3, .int .u64 xi3, .int .i64 xs3, .slice xA3 xl3.length xc3]) (by simp [results, Tryz.results168, go_sem, q0, q1, q2, q3, q4, q5]) rfl ?_
  clear q0 f0 q1 f1 q2 f2 q3 f3 q4 f4 q5 f5
  have hzp : w.heap.size + 1 < w2.heap.size := by
    have h1 := HG2.out.size
    simp at h1
    omega
  refine ⟨⟨n1, n2, xe3, xi3, xs3, xA3, xc3, xl3⟩, rfl, by rw [← HPP3.out]; rfl, done_of (by have := HB1.out; unfold U8; simp; omega) (HB2.out) (keep_stored rep_local (keep_stored rep_local (keep_stored rep_local (keep_stored rep_local (keep_stored rep_local (keep_stored rep_local HOK3.out HLI3.out hzp) HLI3.out hzp) HLI3.out hzp) HLI3.out hzp) HLI3.out hzp) HLI3.out hzp), HLI3.out.more (by omega) (by simp), ((((((HR3.out.stored (by omega)).stored (by omega)).stored (by omega)).stored (by omega)).stored (by omega)).stored (by omega)), (grown_stored (grown_stored (grown_stored (grown_stored (grown_stored (grown_stored (grown_made (grown_made (grown_ndrew HG3.out))) (Nat.le_succ _)) (Nat.le_succ _)) (Nat.le_succ _)) (Nat.le_succ _)) (Nat.le_succ _)) (Nat.le_succ _))⟩

end Go.Proofs.YtkgnondlcaklnaaGreat

/-
  Contract of reg's taker's method: Cel.
-/
namespace Go.Proofs.YtkgnondlcaklnaaGreat
open Go.RowKit

set_option maxRecDepth 100000 in
set_option maxHeartbeats 1600000 in
theorem cell6_any {g : Nat} {s : RS} {w : World} (h : Rdr w g s.1 s.2) (hs : RSok s) : Calls Tryz.prog 170 #[takerV g] w (PartR celV (fun c => (c.1, c.2.1, c.2.2.1, c.2.2.2)) (fun _ _ c => celIn c) noFt w g (celS s)) := by
  have hgl : g < w.heap.size := h.glt
  have hb1 := (numBig_ok hs).2
  have hk1 := (numBig_ok hs).1
  have HC1 := hide_ (fun (u : World) (hr : Rdr u g s.1 s.2) => tNumber6_any hr hs)
  obtain ⟨n1, hn1⟩ : ∃ n, (numBig s).1 = n := ⟨_, rfl⟩
  obtain ⟨s1, hs1⟩ : ∃ t, (numBig s).2 = t := ⟨_, rfl⟩
  rw [hn1] at hb1
  rw [hs1] at hk1
  simp only [hn1, hs1] at HC1
  have hb2 := (numS_ok (most := 255) hk1).2
  have hk2 := (numS_ok (most := 255) hk1).1
  have HC2 := hide_ (fun (u : World) (hr : Rdr u g s1.1 s1.2) => tSmall6_any hr hk1)
  obtain ⟨n2, hn2⟩ : ∃ n, (numS 255 s1).1 = n := ⟨_, rfl⟩
  obtain ⟨s2, hs2⟩ : ∃ t, (numS 255 s1).2 = t := ⟨_, rfl⟩
  rw [hn2] at hb2
  rw [hs2] at hk2
  simp only [hn2, hs2] at HC2
  have hb3 := (numS_ok (most := 1000) hk2).2
  have hk3 := (numS_ok (most := 1000) hk2).1
  have HC3 := hide_ (fun (u : World) (hr : Rdr u g s2.1 s2.2) => tOther6_any hr hk2)
  obtain ⟨n3, hn3⟩ : ∃ n, (numS 1000 s2).1 = n := ⟨_, rfl⟩
  obtain ⟨s3, hs3⟩ : ∃ t, (numS 1000 s2).2 = t := ⟨_, rfl⟩
  rw [hn3] at hb3
  rw [hs3] at hk3
  simp only [hn3, hs3] at HC3
  have hb4 := (intS_ok hk3).2
  have hk4 := (intS_ok hk3).1
  have HC4 := hide_ (fun (u : World) (hr : Rdr u g s3.1 s3.2) => Int_st hr hk3)
  obtain ⟨n4, hn4⟩ : ∃ n, (intS s3).1 = n := ⟨_, rfl⟩
  obtain ⟨s4, hs4⟩ : ∃ t, (intS s3).2 = t := ⟨_, rfl⟩
  rw [hn4] at hb4
  rw [hs4] at hk4
  simp only [hn4, hs4] at HC4
  have HP := hide_ (show celS s = (((n1 : Int), (n2 : Int), (n3 : Int), n4), s4) by unfold celS; simp only [hn1, hs1, hn2, hs2, hn3, hs3, hn4, hs4])
  have HB1 := hide_ hb1
  have HB2 := hide_ hb2
  have HB3 := hide_ hb3
  have HB4 := hide_ hb4
  rw [HP.out]
  have HG0 := hide_ (World.grownBy.refl ((w.alloc (.cells #[.pointer (some ⟨g, 0, none⟩)] 170)).alloc (.cells #[.int .u64 0, .int .u8 0, .int .i64 0, .int .i64 0] 74)).drew (some g))
  have HR0 := hide_ (show Rdr ((w.alloc (.cells #[.pointer (some ⟨g, 0, none⟩)] 170)).alloc (.cells #[.int .u64 0, .int .u8 0, .int .i64 0, .int .i64 0] 74)).drew g s.1 s.2 from ((h.made _).made _).drawn)
  have HBX := hide_ (fun (u : World) (hu : (w.alloc (.cells #[.pointer (some ⟨g, 0, none⟩)] 170)).grownBy u (some g)) => show u.cell? ⟨w.heap.size, 0, none⟩ = some (.pointer (some ⟨g, 0, none⟩)) by
    have h1 := BoxAt.new w #[.pointer (some ⟨g, 0, none⟩)] 170
    exact cell_of_row _ _ 0 _ _ _ (box_far hu h1 (by omega)))
  have HZ := hide_ (fun (u : World) (hu : ((w.alloc (.cells #[.pointer (some ⟨g, 0, none⟩)] 170)).alloc (.cells #[.int .u64 0, .int .u8 0, .int .i64 0, .int .i64 0] 74)).drew.grownBy u (some g)) => show u.heap[w.heap.size + 1]? = some (.cells #[.int .u64 0, .int .u8 0, .int .i64 0, .int .i64 0] 74 (0, 0)) from box_far hu (by
    have := BoxAt.new (w.alloc (.cells #[.pointer (some ⟨g, 0, none⟩)] 170)) #[.int .u64 0, .int .u8 0, .int .i64 0, .int .i64 0] 74
    have h2 : ((w.alloc (.cells #[.pointer (some ⟨g, 0, none⟩)] 170)).alloc (.cells #[.int .u64 0, .int .u8 0, .int .i64 0, .int .i64 0] 74)).heap[w.heap.size + 1]? = some (.cells #[.int .u64 0, .int .u8 0, .int .i64 0, .int .i64 0] 74 (0, 0)) := by simpa [BoxAt] using this
    exact h2) (by omega))
  clear h hs hn1 hn2 hn3 hn4 hs1 hs2 hs3 hs4 hk1 hk2 hk3 hk4
  unfold takerV
  go_enter Tryz.func170, Tryz.ntmps170
  go_wp2
  go_region_held_law (fun w' => w'.cell? ⟨w.heap.size, 0, none⟩ = some (.pointer (some ⟨g, 0, none⟩)))
    (first | exact HBX.out _ (grown_made (grown_ndrew HG0.out)) | exact HBX.out _ (grown_made (grown_ndrew HG1.out)) | exact HBX.out _ (grown_made (grown_ndrew HG2.out)) | exact HBX.out _ (grown_made (grown_ndrew HG3.out)) | exact HBX.out _ (grown_made (grown_ndrew HG4.out)) | exact HBX.out _ (grown_stored (grown_stored (grown_stored (grown_stored (grown_made (grown_ndrew HG4.out)) (by simp)) (by simp)) (by simp)) (by simp)))
    (first | (go_simp; go_at_call 163; refine (HC1.out _ HR0.out).mono ?_; rintro en w1 ⟨rfl, hr1, hg1⟩; (have HR1 := hide_ hr1); (have HGG1 := hide_ hg1); (have HG1 := hide_ (grown_join HG0.out hg1)); clear hr1 hg1) | (go_simp; go_at_call 162; refine (HC2.out _ HR1.out).mono ?_; rintro en w2 ⟨rfl, hr2, hg2⟩; (have HR2 := hide_ hr2); (have HGG2 := hide_ hg2); (have HG2 := hide_ (grown_join HG1.out hg2)); clear hr2 hg2) | (go_simp; go_at_call 164; refine (HC3.out _ HR2.out).mono ?_; rintro en w3 ⟨rfl, hr3, hg3⟩; (have HR3 := hide_ hr3); (have HGG3 := hide_ hg3); (have HG3 := hide_ (grown_join HG2.out hg3)); clear hr3 hg3) | (go_simp; go_at_call 166; refine (HC4.out _ HR3.out).mono ?_; rintro en w4 ⟨rfl, hr4, hg4⟩; (have HR4 := hide_ hr4); (have HGG4 := hide_ hg4); (have HG4 := hide_ (grown_join HG3.out hg4)); clear hr4 hg4; (have hkz := HZ.out _ HG4.out); (have q0 : w4.cell? ⟨w.heap.size + 1, 0, none⟩ = some (.int .u64 0) := (by rw [cell_of_row _ _ 0 _ _ _ hkz]; rfl)); (have f0 : w4.frozen? ⟨w.heap.size + 1, 0, none⟩ = false := (by simp [World.frozen?, hkz])); (have q1 : w4.cell? ⟨w.heap.size + 1, 1, none⟩ = some (.int .u8 0) := (by rw [cell_of_row _ _ 1 _ _ _ hkz]; rfl)); (have f1 : w4.frozen? ⟨w.heap.size + 1, 1, none⟩ = false := (by simp [World.frozen?, hkz])); (have q2 : w4.cell? ⟨w.heap.size + 1, 2, none⟩ = some (.int .i64 0) := (by rw [cell_of_row _ _ 2 _ _ _ hkz]; rfl)); (have f2 : w4.frozen? ⟨w.heap.size + 1, 2, none⟩ = false := (by simp [World.frozen?, hkz])); (have q3 : w4.cell? ⟨w.heap.size + 1, 3, none⟩ = some (.int .i64 0) := (by rw [cell_of_row _ _ 3 _ _ _ hkz]; rfl)); (have f3 : w4.frozen? ⟨w.heap.size + 1, 3, none⟩ = false := (by simp [World.frozen?, hkz])); clear hkz))
  go_wp2
  refine bodyPost_ret (v := .agg #[.int .u64 n1, .int .u8 n2, .int .i64 n3, .int .i64 n4]) (by simp [results, Tryz.results170, go_sem, q0, q1, q2, q3]) rfl ?_
  clear q0 f0 q1 f1 q2 f2 q3 f3
  refine ⟨(n1, n2, n3, n4), rfl, rfl, (show celIn _ from ⟨HB1.out, by have := HB2.out; unfold U8; simp; omega, by have := HB3.out; unfold I64; simp; omega, HB4.out⟩), fun _ h => h.elim, ((((HR4.out.stored (by omega)).stored (by omega)).stored (by omega)).stored (by omega)), (grown_stored (grown_stored (grown_stored (grown_stored (grown_made (grown_made (grown_ndrew HG4.out))) (Nat.le_succ _)) (Nat.le_succ _)) (Nat.le_succ _)) (Nat.le_succ _))⟩

end Go.Proofs.YtkgnondlcaklnaaGreat

/-
  Contract of reg's taker's method: Mrk.
-/
namespace Go.Proofs.YtkgnondlcaklnaaGreat
open Go.RowKit

set_option maxRecDepth 100000 in
set_option maxHeartbeats 1600000 in
theorem mark6_any {g : Nat} {s : RS} {w : World} (h : Rdr w g s.1 s.2) (hs : RSok s) : Calls Tryz.prog 172 #[takerV g] w (PartR mrkV (fun c => (c.1, c.2.1, c.2.2)) (fun _ _ c => mrkIn c) noFt w g (mrkS s)) := by
  have hgl : g < w.heap.size := h.glt
  have hb1 := (numS_ok (most := 255) hs).2
  have hk1 := (numS_ok (most := 255) hs).1
  have HC1 := hide_ (fun (u : World) (hr : Rdr u g s.1 s.2) => tSmall6_any hr hs)
  obtain ⟨n1, hn1⟩ : ∃ n, (numS 255 s).1 = n := ⟨_, rfl⟩
  obtain ⟨s1, hs1⟩ : ∃ t, (numS 255 s).2 = t := ⟨_, rfl⟩
  rw [hn1] at hb1
  rw [hs1] at hk1
  simp only [hn1, hs1] at HC1
  have hb2 := (numBig_ok hk1).2
  have hk2 := (numBig_ok hk1).1
  have HC2 := hide_ (fun (u : World) (hr : Rdr u g s1.1 s1.2) => tNumber6_any hr hk1)
  obtain ⟨n2, hn2⟩ : ∃ n, (numBig s1).1 = n := ⟨_, rfl⟩
  obtain ⟨s2, hs2⟩ : ∃ t, (numBig s1).2 = t := ⟨_, rfl⟩
  rw [hn2] at hb2
  rw [hs2] at hk2
  simp only [hn2, hs2] at HC2
  have hb3 := (numBig_ok hk2).2
  have hk3 := (numBig_ok hk2).1
  have HC3 := hide_ (fun (u : World) (hr : Rdr u g s2.1 s2.2) => tNumber6_any hr hk2)
  obtain ⟨n3, hn3⟩ : ∃ n, (numBig s2).1 = n := ⟨_, rfl⟩
  obtain ⟨s3, hs3⟩ : ∃ t, (numBig s2).2 = t := ⟨_, rfl⟩
  rw [hn3] at hb3
  rw [hs3] at hk3
  simp only [hn3, hs3] at HC3
  have HP := hide_ (show mrkS s = (((n1 : Int), (n2 : Int), (n3 : Int)), s3) by unfold mrkS; simp only [hn1, hs1, hn2, hs2, hn3, hs3])
  have HB1 := hide_ hb1
  have HB2 := hide_ hb2
  have HB3 := hide_ hb3
  rw [HP.out]
  have HG0 := hide_ (World.grownBy.refl ((w.alloc (.cells #[.pointer (some ⟨g, 0, none⟩)] 170)).alloc (.cells #[.int .u8 0, .int .u64 0, .int .u64 0] 76)).drew (some g))
  have HR0 := hide_ (show Rdr ((w.alloc (.cells #[.pointer (some ⟨g, 0, none⟩)] 170)).alloc (.cells #[.int .u8 0, .int .u64 0, .int .u64 0] 76)).drew g s.1 s.2 from ((h.made _).made _).drawn)
  have HBX := hide_ (fun (u : World) (hu : (w.alloc (.cells #[.pointer (some ⟨g, 0, none⟩)] 170)).grownBy u (some g)) => show u.cell? ⟨w.heap.size, 0, none⟩ = some (.pointer (some ⟨g, 0, none⟩)) by
    have h1 := BoxAt.new w #[.pointer (some ⟨g, 0, none⟩)] 170
    exact cell_of_row _ _ 0 _ _ _ (box_far hu h1 (by omega)))
  have HZ := hide_ (fun (u : World) (hu : ((w.alloc (.cells #[.pointer (some ⟨g, 0, none⟩)] 170)).alloc (.cells #[.int .u8 0, .int .u64 0, .int .u64 0] 76)).drew.grownBy u (some g)) => show u.heap[w.heap.size + 1]? = some (.cells #[.int .u8 0, .int .u64 0, .int .u64 0] 76 (0, 0)) from box_far hu (by
    have := BoxAt.new (w.alloc (.cells #[.pointer (some ⟨g, 0, none⟩)] 170)) #[.int .u8 0, .int .u64 0, .int .u64 0] 76
    have h2 : ((w.alloc (.cells #[.pointer (some ⟨g, 0, none⟩)] 170)).alloc (.cells #[.int .u8 0, .int .u64 0, .int .u64 0] 76)).heap[w.heap.size + 1]? = some (.cells #[.int .u8 0, .int .u64 0, .int .u64 0] 76 (0, 0)) := by simpa [BoxAt] using this
    exact h2) (by omega))
  clear h hs hn1 hn2 hn3 hs1 hs2 hs3 hk1 hk2 hk3
  unfold takerV
  go_enter Tryz.func172, Tryz.ntmps172
  go_wp2
  go_region_held_law (fun w' => w'.cell? ⟨w.heap.size, 0, none⟩ = some (.pointer (some ⟨g, 0, none⟩)))
    (first | exact HBX.out _ (grown_made (grown_ndrew HG0.out)) | exact HBX.out _ (grown_made (grown_ndrew HG1.out)) | exact HBX.out _ (grown_made (grown_ndrew HG2.out)) | exact HBX.out _ (grown_made (grown_ndrew HG3.out)) | exact HBX.out _ (grown_stored (grown_stored (grown_stored (grown_made (grown_ndrew HG3.out)) (by simp)) (by simp)) (by simp)))
    (first | (go_simp; go_at_call 162; refine (HC1.out _ HR0.out).mono ?_; rintro en w1 ⟨rfl, hr1, hg1⟩; (have HR1 := hide_ hr1); (have HGG1 := hide_ hg1); (have HG1 := hide_ (grown_join HG0.out hg1)); clear hr1 hg1) | (go_simp; go_at_call 163; refine (HC2.out _ HR1.out).mono ?_; rintro en w2 ⟨rfl, hr2, hg2⟩; (have HR2 := hide_ hr2); (have HGG2 := hide_ hg2); (have HG2 := hide_ (grown_join HG1.out hg2)); clear hr2 hg2) | (go_simp; go_at_call 163; refine (HC3.out _ HR2.out).mono ?_; rintro en w3 ⟨rfl, hr3, hg3⟩; (have HR3 := hide_ hr3); (have HGG3 := hide_ hg3); (have HG3 := hide_ (grown_join HG2.out hg3)); clear hr3 hg3; (have hkz := HZ.out _ HG3.out); (have q0 : w3.cell? ⟨w.heap.size + 1, 0, none⟩ = some (.int .u8 0) := (by rw [cell_of_row _ _ 0 _ _ _ hkz]; rfl)); (have f0 : w3.frozen? ⟨w.heap.size + 1, 0, none⟩ = false := (by simp [World.frozen?, hkz])); (have q1 : w3.cell? ⟨w.heap.size + 1, 1, none⟩ = some (.int .u64 0) := (by rw [cell_of_row _ _ 1 _ _ _ hkz]; rfl)); (have f1 : w3.frozen? ⟨w.heap.size + 1, 1, none⟩ = false := (by simp [World.frozen?, hkz])); (have q2 : w3.cell? ⟨w.heap.size + 1, 2, none⟩ = some (.int .u64 0) := (by rw [cell_of_row _ _ 2 _ _ _ hkz]; rfl)); (have f2 : w3.frozen? ⟨w.heap.size + 1, 2, none⟩ = false := (by simp [World.frozen?, hkz])); clear hkz))
  go_wp2
  refine bodyPost_ret (v := .agg #[.int .u8 n1, .int .u64 n2, .int .u64 n3]) (by simp [results, Tryz.results172, go_sem, q0, q1, q2]) rfl ?_
  clear q0 f0 q1 f1 q2 f2
  refine ⟨(n1, n2, n3), rfl, rfl, (show mrkIn _ from ⟨by have := HB1.out; unfold U8; simp; omega, HB2.out, HB3.out⟩), fun _ h => h.elim, (((HR3.out.stored (by omega)).stored (by omega)).stored (by omega)), (grown_stored (grown_stored (grown_stored (grown_made (grown_made (grown_ndrew HG3.out))) (Nat.le_succ _)) (Nat.le_succ _)) (Nat.le_succ _))⟩

end Go.Proofs.YtkgnondlcaklnaaGreat

/-
  Contracts of table's taker: formulas, sets, emits.
-/
namespace Go.Proofs.YtkgnondlcaklnaaGreat
open Go.RowKit

def tokS (s : RS) : (Int × Int) × RS := ((((numS 255 s).1 : Int), (intS (numS 255 s).2).1), (intS (numS 255 s).2).2)
def fmlS (s : RS) : List (Int × Int) × RS := manyS 24 tokS s
def setS (s : RS) : SetM × RS := (⟨((numS 1000 s).1 : Int), ⟨none, 0, (fmlS (numS 1000 s).2).1⟩⟩, (fmlS (numS 1000 s).2).2)
def emS (s : RS) : EmM × RS := (⟨((numS 255 s).1 : Int), ((numS 1000 (numS 255 s).2).1 : Int), ⟨none, 0, (fmlS (numS 1000 (numS 255 s).2).2).1⟩⟩, (fmlS (numS 1000 (numS 255 s).2).2).2)
theorem tokS_ok {s : RS} (h : RSok s) : RSok (tokS s).2 := (intS_ok (numS_ok h).1).1
theorem fmlS_ok {s : RS} (h : RSok s) : RSok (fmlS s).2 := manyS_ok (fun _ h => tokS_ok h) h
theorem setS_ok {s : RS} (h : RSok s) : RSok (setS s).2 := fmlS_ok (numS_ok h).1
theorem emS_ok {s : RS} (h : RSok s) : RSok (emS s).2 := fmlS_ok (numS_ok (numS_ok h).1).1

end Go.Proofs.YtkgnondlcaklnaaGreat

/-
  Contracts of table's taker: rules, contracts; Get.
-/
namespace Go.Proofs.YtkgnondlcaklnaaGreat
open Go.RowKit

theorem BoxAt.frozen {w : World} {g : Nat} {cs : Array Value} {t : TypeId} (h : BoxAt w g cs t) (i : Nat) : w.frozen? ⟨g, i, none⟩ = false := by
  unfold BoxAt at h
  simp [World.frozen?, h]

def ruleS (s : RS) : RuM × RS :=
  let a := numS 1000 s
  let b := numS 1000 a.2
  let c := numS 1000 b.2
  let d := numS 1000 c.2
  let e := fmlS d.2
  let f := manyS 8 setS e.2
  let h := manyS 4 emS f.2
  (⟨(a.1 : Int), (b.1 : Int), (c.1 : Int), (d.1 : Int), ⟨none, 0, e.1⟩, ⟨none, 0, f.1⟩, ⟨none, 0, h.1⟩⟩, h.2)
def tabS (s : RS) : (Int × Int × List RuM) × RS :=
  let a := numS 1000 s
  let b := numS 1000 a.2
  let r := manyS 32 ruleS b.2
  (((a.1 : Int), (b.1 : Int), r.1), r.2)
theorem ruleS_ok {s : RS} (h : RSok s) : RSok (ruleS s).2 :=
  manyS_ok (fun _ h => emS_ok h) (manyS_ok (fun _ h => setS_ok h) (fmlS_ok (numS_ok (numS_ok (numS_ok (numS_ok h).1).1).1).1))
theorem tabS_ok {s : RS} (h : RSok s) : RSok (tabS s).2 := manyS_ok (fun _ h => ruleS_ok h) (numS_ok (numS_ok h).1).1

end Go.Proofs.YtkgnondlcaklnaaGreat
