/-
  Contracts of table's taker: formulas, sets, emits.
-/
import Derived.Test.YtkjgplcfoihohaaTk5
import Derived.Deep.RegionHeldLaw
import Derived.IntWalk
namespace Go.Proofs.Ytkjgplcfoihohaa
open Go.RowKit

def tokS (s : RS) : (Int × Int) × RS := ((((numS 255 s).1 : Int), (intS (numS 255 s).2).1), (intS (numS 255 s).2).2)
def fmlS (s : RS) : List (Int × Int) × RS := manyS 24 tokS s
def setS (s : RS) : SetM × RS := (⟨((numS 1000 s).1 : Int), ⟨none, 0, (fmlS (numS 1000 s).2).1⟩⟩, (fmlS (numS 1000 s).2).2)
def emS (s : RS) : EmM × RS := (⟨((numS 255 s).1 : Int), ((numS 1000 (numS 255 s).2).1 : Int), ⟨none, 0, (fmlS (numS 1000 (numS 255 s).2).2).1⟩⟩, (fmlS (numS 1000 (numS 255 s).2).2).2)
theorem tokS_ok {s : RS} (h : RSok s) : RSok (tokS s).2 := (intS_ok (numS_ok h).1).1
theorem fmlS_ok {s : RS} (h : RSok s) : RSok (fmlS s).2 := manyS_ok (fun _ h => tokS_ok h) h
theorem setS_ok {s : RS} (h : RSok s) : RSok (setS s).2 := fmlS_ok (numS_ok h).1
theorem emS_ok {s : RS} (h : RSok s) : RSok (emS s).2 := fmlS_ok (numS_ok (numS_ok h).1).1

set_option maxRecDepth 100000 in
set_option maxHeartbeats 1600000 in
theorem tok5_any {g b : Nat} {s : RS} {w : World} (h : Rdr w g s.1 s.2) (hs : RSok s) (hbx : w.cell? ⟨b, 0, none⟩ = some (.pointer (some ⟨g, 0, none⟩))) (hbg : b ≠ g) : Calls Try.prog 149 #[.pointer (some ⟨b, 0, none⟩)] w (PartR tokV (fun t => (t.1, t.2)) (fun _ _ t => TokIn t) noFt w g (tokS s)) := by
  have hgl : g < w.heap.size := h.glt
  have hb1 := (numS_ok (most := 255) hs).2
  have hk1 := (numS_ok (most := 255) hs).1
  have HC1 := hide_ (fun (u : World) (hr : Rdr u g s.1 s.2) => tSmall5_any hr hs)
  obtain ⟨n1, hn1⟩ : ∃ n, (numS 255 s).1 = n := ⟨_, rfl⟩
  obtain ⟨s1, hs1⟩ : ∃ t, (numS 255 s).2 = t := ⟨_, rfl⟩
  rw [hn1] at hb1
  rw [hs1] at hk1
  simp only [hn1, hs1] at HC1
  have hb2 := (intS_ok hk1).2
  have hk2 := (intS_ok hk1).1
  have HC2 := hide_ (fun (u : World) (hr : Rdr u g s1.1 s1.2) => Int_st hr hk1)
  obtain ⟨n2, hn2⟩ : ∃ n, (intS s1).1 = n := ⟨_, rfl⟩
  obtain ⟨s2, hs2⟩ : ∃ t, (intS s1).2 = t := ⟨_, rfl⟩
  rw [hn2] at hb2
  rw [hs2] at hk2
  simp only [hn2, hs2] at HC2
  have HP := hide_ (show tokS s = (((n1 : Int), n2), s2) by unfold tokS; simp only [hn1, hs1, hn2, hs2])
  have HB1 := hide_ hb1
  have HB2 := hide_ hb2
  rw [HP.out]
  have HG0 := hide_ (World.grownBy.refl (w.alloc (.cells #[.int .u8 0, .int .i64 0] 127)).drew (some g))
  have HR0 := hide_ (show Rdr (w.alloc (.cells #[.int .u8 0, .int .i64 0] 127)).drew g s.1 s.2 from (h.made _).drawn)
  have HBX := hide_ (fun (u : World) (hu : w.grownBy u (some g)) => show u.cell? ⟨b, 0, none⟩ = some (.pointer (some ⟨g, 0, none⟩)) from hu.cell hbx (by intro e; injection e with e; exact hbg e))
  have HZ := hide_ (fun (u : World) (hu : (w.alloc (.cells #[.int .u8 0, .int .i64 0] 127)).drew.grownBy u (some g)) => show u.heap[w.heap.size]? = some (.cells #[.int .u8 0, .int .i64 0] 127 (0, 0)) from box_far hu (BoxAt.new w _ _) (by omega))
  clear h hs hbx hbg hn1 hn2 hs1 hs2 hk1 hk2
  go_enter Try.func149, Try.ntmps149
  go_wp2
  go_region_held_law (fun w' => w'.cell? ⟨b, 0, none⟩ = some (.pointer (some ⟨g, 0, none⟩)))
    (first | exact HBX.out _ (grown_made (grown_ndrew HG0.out)) | exact HBX.out _ (grown_made (grown_ndrew HG1.out)) | exact HBX.out _ (grown_made (grown_ndrew HG2.out)) | exact HBX.out _ (grown_stored (grown_stored (grown_made (grown_ndrew HG2.out)) (by simp)) (by simp)))
    (first | (go_simp; go_at_call 150; refine (HC1.out _ HR0.out).mono ?_; rintro en w1 ⟨rfl, hr1, hg1⟩; (have HR1 := hide_ hr1); (have HGG1 := hide_ hg1); (have HG1 := hide_ (grown_join HG0.out hg1)); clear hr1 hg1) | (go_simp; go_at_call 98; refine (HC2.out _ HR1.out).mono ?_; rintro en w2 ⟨rfl, hr2, hg2⟩; (have HR2 := hide_ hr2); (have HGG2 := hide_ hg2); (have HG2 := hide_ (grown_join HG1.out hg2)); clear hr2 hg2; (have hkz := HZ.out _ HG2.out); (have q0 : w2.cell? ⟨w.heap.size, 0, none⟩ = some (.int .u8 0) := (by rw [cell_of_row _ _ 0 _ _ _ hkz]; rfl)); (have f0 : w2.frozen? ⟨w.heap.size, 0, none⟩ = false := (by simp [World.frozen?, hkz])); (have q1 : w2.cell? ⟨w.heap.size, 1, none⟩ = some (.int .i64 0) := (by rw [cell_of_row _ _ 1 _ _ _ hkz]; rfl)); (have f1 : w2.frozen? ⟨w.heap.size, 1, none⟩ = false := (by simp [World.frozen?, hkz])); clear hkz))
  go_wp2
  refine bodyPost_ret (v := .agg #[.int .u8 n1, .int .i64 n2]) (by simp [results, Try.results149, go_sem, q0, q1]) rfl ?_
  clear q0 f0 q1 f1
  refine ⟨(n1, n2), rfl, rfl, (show TokIn _ from ⟨by simp, by have := HB1.out; simp; omega, HB2.out⟩), fun _ h => h.elim, ((HR2.out.stored (by omega)).stored (by omega)), (grown_stored (grown_stored (grown_made (grown_ndrew HG2.out)) (Nat.le_refl _)) (Nat.le_refl _))⟩

set_option maxRecDepth 100000 in
theorem formula5_any {g : Nat} {s : RS} {w : World} (h : Rdr w g s.1 s.2) (hs : RSok s) : Calls Try.prog 113 #[takerV g] w (PartR Sl.v (fun x => x.l) toksOk (Sl.ft noFt) w g (fmlS s)) := by
  have hgl : g < w.heap.size := h.glt
  have HM := hide_ (manyTok5_any (w := w.alloc (.cells #[.pointer (some ⟨g, 0, none⟩)] 85)) 24 (by omega) (fun t => (t.1, t.2)) 149 #[] #[.pointer (some ⟨w.heap.size, 0, none⟩)] tokS (h.made _) hs (fun _ h => tokS_ok h) (fun _ _ => rfl) (fun w1 s1 hg hr hs1 => by
    have hb : w1.cell? ⟨w.heap.size, 0, none⟩ = some (.pointer (some ⟨g, 0, none⟩)) := cell_of_row _ _ 0 _ _ _ (box_far hg (BoxAt.new w _ _) (by omega))
    exact tok5_any hr hs1 hb (by omega)))
  unfold takerV at HM ⊢
  clear h hs
  go_enter Try.func113, Try.ntmps113
  go_wp2_with fail
  refine HM.out.mono ?_
  rintro en w1 ⟨x, rfl, hp, ho, hl, hr, hg⟩
  go_wp2
  go_ret
  exact ⟨x, rfl, by rw [← show x.l.map (fun t => (t.1, t.2)) = (fmlS s).1 from hp]; simp, ho, hl.more (by simp) (Nat.le_refl _), hr, grown_made hg⟩

set_option maxRecDepth 100000 in
set_option maxHeartbeats 1600000 in
theorem set5_any {g : Nat} {s : RS} {w : World} (h : Rdr w g s.1 s.2) (hs : RSok s) : Calls Try.prog 115 #[takerV g] w (PartR SetM.v SetM.bare SetM.ok SetM.ft w g (setS s)) := by
  have hgl : g < w.heap.size := h.glt
  have hb1 := (numS_ok (most := 1000) hs).2
  have hk1 := (numS_ok (most := 1000) hs).1
  have HC1 := hide_ (fun (u : World) (hr : Rdr u g s.1 s.2) => tOther5_any hr hs)
  obtain ⟨n1, hn1⟩ : ∃ n, (numS 1000 s).1 = n := ⟨_, rfl⟩
  obtain ⟨s1, hs1⟩ : ∃ t, (numS 1000 s).2 = t := ⟨_, rfl⟩
  rw [hn1] at hb1
  rw [hs1] at hk1
  simp only [hn1, hs1] at HC1
  have hk2 := fmlS_ok hk1
  have HC2 := hide_ (fun (u : World) (hr : Rdr u g s1.1 s1.2) => formula5_any hr hk1)
  obtain ⟨n2, hn2⟩ : ∃ n, (fmlS s1).1 = n := ⟨_, rfl⟩
  obtain ⟨s2, hs2⟩ : ∃ t, (fmlS s1).2 = t := ⟨_, rfl⟩
  rw [hs2] at hk2
  simp only [show fmlS s1 = (n2, s2) by rw [← hn2, ← hs2]] at HC2
  have HP := hide_ (show setS s = ((⟨(n1 : Int), ⟨none, 0, n2⟩⟩ : SetM), s2) by unfold setS; simp only [hn1, hs1, hn2, hs2])
  have HB1 := hide_ hb1
  rw [HP.out]
  have HG0 := hide_ (World.grownBy.refl ((w.alloc (.cells #[.pointer (some ⟨g, 0, none⟩)] 85)).alloc (.cells #[.int .i64 0, .slice none 0 0] 77)).drew (some g))
  have HR0 := hide_ (show Rdr ((w.alloc (.cells #[.pointer (some ⟨g, 0, none⟩)] 85)).alloc (.cells #[.int .i64 0, .slice none 0 0] 77)).drew g s.1 s.2 from ((h.made _).made _).drawn)
  have HBX := hide_ (fun (u : World) (hu : (w.alloc (.cells #[.pointer (some ⟨g, 0, none⟩)] 85)).grownBy u (some g)) => show u.cell? ⟨w.heap.size, 0, none⟩ = some (.pointer (some ⟨g, 0, none⟩)) by
    have h1 := BoxAt.new w #[.pointer (some ⟨g, 0, none⟩)] 85
    exact cell_of_row _ _ 0 _ _ _ (box_far hu h1 (by omega)))
  have HZ := hide_ (fun (u : World) (hu : ((w.alloc (.cells #[.pointer (some ⟨g, 0, none⟩)] 85)).alloc (.cells #[.int .i64 0, .slice none 0 0] 77)).drew.grownBy u (some g)) => show u.heap[w.heap.size + 1]? = some (.cells #[.int .i64 0, .slice none 0 0] 77 (0, 0)) from box_far hu (by
    have := BoxAt.new (w.alloc (.cells #[.pointer (some ⟨g, 0, none⟩)] 85)) #[.int .i64 0, .slice none 0 0] 77
    have h2 : ((w.alloc (.cells #[.pointer (some ⟨g, 0, none⟩)] 85)).alloc (.cells #[.int .i64 0, .slice none 0 0] 77)).heap[w.heap.size + 1]? = some (.cells #[.int .i64 0, .slice none 0 0] 77 (0, 0)) := by simpa [BoxAt] using this
    exact h2) (by omega))
  clear h hs hn1 hn2 hs1 hs2 hk1 hk2
  unfold takerV
  go_enter Try.func115, Try.ntmps115
  go_wp2
  go_region_held_law (fun w' => w'.cell? ⟨w.heap.size, 0, none⟩ = some (.pointer (some ⟨g, 0, none⟩)))
    (first | exact HBX.out _ (grown_made (grown_ndrew HG0.out)) | exact HBX.out _ (grown_made (grown_ndrew HG1.out)) | exact HBX.out _ (grown_made (grown_ndrew HG2.out)) | exact HBX.out _ (grown_stored (grown_stored (grown_made (grown_ndrew HG2.out)) (by simp)) (by simp)))
    (first | (go_simp; go_at_call 76; refine (HC1.out _ HR0.out).mono ?_; rintro en w1 ⟨rfl, hr1, hg1⟩; (have HR1 := hide_ hr1); (have HGG1 := hide_ hg1); (have HG1 := hide_ (grown_join HG0.out hg1)); clear hr1 hg1) | (go_simp; go_at_call 113; refine (HC2.out _ HR1.out).mono ?_; rintro en w2 ⟨x2, rfl, hp2, ho2, hl2, hr2, hg2⟩; obtain ⟨xA2, xc2, xl2⟩ := x2; (try simp only [Sl.v]); (have HPP2 := hide_ hp2); (have HOK2 := hide_ ho2); (have HLI2 := hide_ hl2); clear hp2 ho2 hl2; (have HR2 := hide_ hr2); (have HGG2 := hide_ hg2); (have HG2 := hide_ (grown_join HG1.out hg2)); clear hr2 hg2; (have hkz := HZ.out _ HG2.out); (have q0 : w2.cell? ⟨w.heap.size + 1, 0, none⟩ = some (.int .i64 0) := (by rw [cell_of_row _ _ 0 _ _ _ hkz]; rfl)); (have f0 : w2.frozen? ⟨w.heap.size + 1, 0, none⟩ = false := (by simp [World.frozen?, hkz])); (have q1 : w2.cell? ⟨w.heap.size + 1, 1, none⟩ = some (.slice none 0 0) := (by rw [cell_of_row _ _ 1 _ _ _ hkz]; rfl)); (have f1 : w2.frozen? ⟨w.heap.size + 1, 1, none⟩ = false := (by simp [World.frozen?, hkz])); clear hkz))
  go_wp2
  refine bodyPost_ret (v := .agg #[.int .i64 n1, .slice xA2 xl2.length xc2]) (by simp [results, Try.results115, go_sem, q0, q1]) rfl ?_
  clear q0 f0 q1 f1
  have hzp : w.heap.size + 1 < w1.heap.size := by
    have h1 := HG1.out.size
    simp at h1
    omega
  refine ⟨⟨n1, xA2, xc2, xl2⟩, rfl, by rw [← HPP2.out]; rfl, ⟨by have := HB1.out; unfold I64; simp; omega, (keep_stored toks_local (keep_stored toks_local HOK2.out HLI2.out hzp) HLI2.out hzp)⟩, HLI2.out.more (by omega) (by simp), ((HR2.out.stored (by omega)).stored (by omega)), (grown_stored (grown_stored (grown_made (grown_made (grown_ndrew HG2.out))) (Nat.le_succ _)) (Nat.le_succ _))⟩

set_option maxRecDepth 100000 in
set_option maxHeartbeats 1600000 in
theorem emit5_any {g : Nat} {s : RS} {w : World} (h : Rdr w g s.1 s.2) (hs : RSok s) : Calls Try.prog 117 #[takerV g] w (PartR EmM.v EmM.bare EmM.ok EmM.ft w g (emS s)) := by
  have hgl : g < w.heap.size := h.glt
  have hb1 := (numS_ok (most := 255) hs).2
  have hk1 := (numS_ok (most := 255) hs).1
  have HC1 := hide_ (fun (u : World) (hr : Rdr u g s.1 s.2) => tSmall5_any hr hs)
  obtain ⟨n1, hn1⟩ : ∃ n, (numS 255 s).1 = n := ⟨_, rfl⟩
  obtain ⟨s1, hs1⟩ : ∃ t, (numS 255 s).2 = t := ⟨_, rfl⟩
  rw [hn1] at hb1
  rw [hs1] at hk1
  simp only [hn1, hs1] at HC1
  have hb2 := (numS_ok (most := 1000) hk1).2
  have hk2 := (numS_ok (most := 1000) hk1).1
  have HC2 := hide_ (fun (u : World) (hr : Rdr u g s1.1 s1.2) => tOther5_any hr hk1)
  obtain ⟨n2, hn2⟩ : ∃ n, (numS 1000 s1).1 = n := ⟨_, rfl⟩
  obtain ⟨s2, hs2⟩ : ∃ t, (numS 1000 s1).2 = t := ⟨_, rfl⟩
  rw [hn2] at hb2
  rw [hs2] at hk2
  simp only [hn2, hs2] at HC2
  have hk3 := fmlS_ok hk2
  have HC3 := hide_ (fun (u : World) (hr : Rdr u g s2.1 s2.2) => formula5_any hr hk2)
  obtain ⟨n3, hn3⟩ : ∃ n, (fmlS s2).1 = n := ⟨_, rfl⟩
  obtain ⟨s3, hs3⟩ : ∃ t, (fmlS s2).2 = t := ⟨_, rfl⟩
  rw [hs3] at hk3
  simp only [show fmlS s2 = (n3, s3) by rw [← hn3, ← hs3]] at HC3
  have HP := hide_ (show emS s = ((⟨(n1 : Int), (n2 : Int), ⟨none, 0, n3⟩⟩ : EmM), s3) by unfold emS; simp only [hn1, hs1, hn2, hs2, hn3, hs3])
  have HB1 := hide_ hb1
  have HB2 := hide_ hb2
  rw [HP.out]
  have HG0 := hide_ (World.grownBy.refl ((w.alloc (.cells #[.pointer (some ⟨g, 0, none⟩)] 85)).alloc (.cells #[.int .u8 0, .int .i64 0, .slice none 0 0] 79)).drew (some g))
  have HR0 := hide_ (show Rdr ((w.alloc (.cells #[.pointer (some ⟨g, 0, none⟩)] 85)).alloc (.cells #[.int .u8 0, .int .i64 0, .slice none 0 0] 79)).drew g s.1 s.2 from ((h.made _).made _).drawn)
  have HBX := hide_ (fun (u : World) (hu : (w.alloc (.cells #[.pointer (some ⟨g, 0, none⟩)] 85)).grownBy u (some g)) => show u.cell? ⟨w.heap.size, 0, none⟩ = some (.pointer (some ⟨g, 0, none⟩)) by
    have h1 := BoxAt.new w #[.pointer (some ⟨g, 0, none⟩)] 85
    exact cell_of_row _ _ 0 _ _ _ (box_far hu h1 (by omega)))
  have HZ := hide_ (fun (u : World) (hu : ((w.alloc (.cells #[.pointer (some ⟨g, 0, none⟩)] 85)).alloc (.cells #[.int .u8 0, .int .i64 0, .slice none 0 0] 79)).drew.grownBy u (some g)) => show u.heap[w.heap.size + 1]? = some (.cells #[.int .u8 0, .int .i64 0, .slice none 0 0] 79 (0, 0)) from box_far hu (by
    have := BoxAt.new (w.alloc (.cells #[.pointer (some ⟨g, 0, none⟩)] 85)) #[.int .u8 0, .int .i64 0, .slice none 0 0] 79
    have h2 : ((w.alloc (.cells #[.pointer (some ⟨g, 0, none⟩)] 85)).alloc (.cells #[.int .u8 0, .int .i64 0, .slice none 0 0] 79)).heap[w.heap.size + 1]? = some (.cells #[.int .u8 0, .int .i64 0, .slice none 0 0] 79 (0, 0)) := by simpa [BoxAt] using this
    exact h2) (by omega))
  clear h hs hn1 hn2 hn3 hs1 hs2 hs3 hk1 hk2 hk3
  unfold takerV
  go_enter Try.func117, Try.ntmps117
  go_wp2
  go_region_held_law (fun w' => w'.cell? ⟨w.heap.size, 0, none⟩ = some (.pointer (some ⟨g, 0, none⟩)))
    (first | exact HBX.out _ (grown_made (grown_ndrew HG0.out)) | exact HBX.out _ (grown_made (grown_ndrew HG1.out)) | exact HBX.out _ (grown_made (grown_ndrew HG2.out)) | exact HBX.out _ (grown_made (grown_ndrew HG3.out)) | exact HBX.out _ (grown_stored (grown_stored (grown_stored (grown_made (grown_ndrew HG3.out)) (by simp)) (by simp)) (by simp)))
    (first | (go_simp; go_at_call 150; refine (HC1.out _ HR0.out).mono ?_; rintro en w1 ⟨rfl, hr1, hg1⟩; (have HR1 := hide_ hr1); (have HGG1 := hide_ hg1); (have HG1 := hide_ (grown_join HG0.out hg1)); clear hr1 hg1) | (go_simp; go_at_call 76; refine (HC2.out _ HR1.out).mono ?_; rintro en w2 ⟨rfl, hr2, hg2⟩; (have HR2 := hide_ hr2); (have HGG2 := hide_ hg2); (have HG2 := hide_ (grown_join HG1.out hg2)); clear hr2 hg2) | (go_simp; go_at_call 113; refine (HC3.out _ HR2.out).mono ?_; rintro en w3 ⟨x3, rfl, hp3, ho3, hl3, hr3, hg3⟩; obtain ⟨xA3, xc3, xl3⟩ := x3; (try simp only [Sl.v]); (have HPP3 := hide_ hp3); (have HOK3 := hide_ ho3); (have HLI3 := hide_ hl3); clear hp3 ho3 hl3; (have HR3 := hide_ hr3); (have HGG3 := hide_ hg3); (have HG3 := hide_ (grown_join HG2.out hg3)); clear hr3 hg3; (have hkz := HZ.out _ HG3.out); (have q0 : w3.cell? ⟨w.heap.size + 1, 0, none⟩ = some (.int .u8 0) := (by rw [cell_of_row _ _ 0 _ _ _ hkz]; rfl)); (have f0 : w3.frozen? ⟨w.heap.size + 1, 0, none⟩ = false := (by simp [World.frozen?, hkz])); (have q1 : w3.cell? ⟨w.heap.size + 1, 1, none⟩ = some (.int .i64 0) := (by rw [cell_of_row _ _ 1 _ _ _ hkz]; rfl)); (have f1 : w3.frozen? ⟨w.heap.size + 1, 1, none⟩ = false := (by simp [World.frozen?, hkz])); (have q2 : w3.cell? ⟨w.heap.size + 1, 2, none⟩ = some (.slice none 0 0) := (by rw [cell_of_row _ _ 2 _ _ _ hkz]; rfl)); (have f2 : w3.frozen? ⟨w.heap.size + 1, 2, none⟩ = false := (by simp [World.frozen?, hkz])); clear hkz))
  go_wp2
  refine bodyPost_ret (v := .agg #[.int .u8 n1, .int .i64 n2, .slice xA3 xl3.length xc3]) (by simp [results, Try.results117, go_sem, q0, q1, q2]) rfl ?_
  clear q0 f0 q1 f1 q2 f2
  have hzp : w.heap.size + 1 < w2.heap.size := by
    have h1 := HG2.out.size
    simp at h1
    omega
  refine ⟨⟨n1, n2, xA3, xc3, xl3⟩, rfl, by rw [← HPP3.out]; rfl, ⟨⟨by simp, by have := HB1.out; simp; omega⟩, by have := HB2.out; unfold I64; simp; omega, (keep_stored toks_local (keep_stored toks_local (keep_stored toks_local HOK3.out HLI3.out hzp) HLI3.out hzp) HLI3.out hzp)⟩, HLI3.out.more (by omega) (by simp), (((HR3.out.stored (by omega)).stored (by omega)).stored (by omega)), (grown_stored (grown_stored (grown_stored (grown_made (grown_made (grown_ndrew HG3.out))) (Nat.le_succ _)) (Nat.le_succ _)) (Nat.le_succ _))⟩

end Go.Proofs.Ytkjgplcfoihohaa
