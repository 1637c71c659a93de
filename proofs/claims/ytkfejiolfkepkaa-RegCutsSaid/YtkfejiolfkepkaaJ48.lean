/-
  Texts of this claim put together: GetReg3.
-/
import Derived.Test.YtkfejiolfkepkaaJ47
/-
  Contract of reg's Get, the call itself.
-/
namespace Go.Proofs.Ytkfejiolfkepkaa
open Go.RowKit

set_option maxRecDepth 100000 in
set_option maxHeartbeats 6400000 in
theorem GetReg_any {g : Nat} {s : RS} {w : World} (h : Rdr w g s.1 s.2) (hs : RSok s) : Calls Try.prog 13 #[.pointer (some ⟨g, 0, none⟩)] w (PartR RegM.v RegM.p RegM.ok RegM.ft w g (getS s)) := by
  have hgl : g < w.heap.size := h.glt
  have HREG := hide_ (reg6_any (w := ((w.alloc (.cells #[.int .u8 0, .int .u64 0, .int .i64 0, .slice none 0 0, .slice none 0 0, .slice none 0 0, .int .u64 0, .slice none 0 0] 29)).alloc (.cells #[.pointer (some ⟨g, 0, none⟩)] 66))) ((h.made _).made _) hs)
  have HOKS := hide_ (regS_ok hs)
  have HZ0 := hide_ (show BoxAt ((w.alloc (.cells #[.int .u8 0, .int .u64 0, .int .i64 0, .slice none 0 0, .slice none 0 0, .slice none 0 0, .int .u64 0, .slice none 0 0] 29)).alloc (.cells #[.pointer (some ⟨g, 0, none⟩)] 66)) w.heap.size #[.int .u8 0, .int .u64 0, .int .i64 0, .slice none 0 0, .slice none 0 0, .slice none 0 0, .int .u64 0, .slice none 0 0] 29 from (BoxAt.new w _ _).alloc (.cells #[.pointer (some ⟨g, 0, none⟩)] 66))
  have HT0 := hide_ (show BoxAt ((w.alloc (.cells #[.int .u8 0, .int .u64 0, .int .i64 0, .slice none 0 0, .slice none 0 0, .slice none 0 0, .int .u64 0, .slice none 0 0] 29)).alloc (.cells #[.pointer (some ⟨g, 0, none⟩)] 66)) (w.heap.size + 1) #[.pointer (some ⟨g, 0, none⟩)] 66 from by
    have h1 := BoxAt.new (w.alloc (.cells #[.int .u8 0, .int .u64 0, .int .i64 0, .slice none 0 0, .slice none 0 0, .slice none 0 0, .int .u64 0, .slice none 0 0] 29)) #[.pointer (some ⟨g, 0, none⟩)] 66
    simpa using h1)
  obtain ⟨R, hR⟩ : ∃ R, regS s = R := ⟨_, rfl⟩
  obtain ⟨G, hG⟩ : ∃ G, getS s = G := ⟨_, rfl⟩
  rw [hG]
  have HGS := hide_ (show G = if R.2.2 = 0 then (if mayG R.1 then R else (zeroP, ([], 3))) else (zeroP, R.2) by rw [← hG, ← hR]; rfl)
  rw [hR] at HREG HOKS
  clear h hs hR hG
  obtain ⟨rp, rs⟩ := R
  unfold takerV at HREG
  go_enter Try.func13, Try.ntmps13
  go_wp2_with fail
  refine HREG.out.mono ?_
  rintro en w2 ⟨x, rfl, hp, ho, hl, hr, hg⟩
  have HPX := hide_ hp
  have HLX := hide_ hl
  have HOX := hide_ (reg_local.below ho ((Below.refl _ _).alloc (Nat.le_refl _) (.cells x.box 29)))
  have HR2 := hide_ (hr.made (.cells x.box 29))
  have hz2 : w.heap.size + 2 ≤ w2.heap.size := by have h := hg.size; simpa using h
  have HG2 := hide_ (show w.grownBy (w2.alloc (.cells x.box 29)) (some g) from grown_join (grown_made (grown_made hg)) (World.grownBy_alloc _ _ _))
  have HZ2 := hide_ (show BoxAt (w2.alloc (.cells x.box 29)) w.heap.size #[.int .u8 0, .int .u64 0, .int .i64 0, .slice none 0 0, .slice none 0 0, .slice none 0 0, .int .u64 0, .slice none 0 0] 29 from BoxAt.alloc (box_far hg HZ0.out (by omega)) _)
  have HT2w := hide_ (show BoxAt w2 (w.heap.size + 1) #[.pointer (some ⟨g, 0, none⟩)] 66 from box_far hg HT0.out (by omega))
  have HT2 := hide_ (HT2w.out.alloc (.cells x.box 29))
  have HX2 := hide_ (BoxAt.new w2 x.box 29)
  have HFL := hide_ (failed6_any HR2.out HOKS.out)
  have HMY := hide_ (fun (u : World) (hb : Below (w2.alloc (.cells x.box 29)).heap.size (w2.alloc (.cells x.box 29)) u) => mayReg_any x (w2.alloc (.cells x.box 29)).heap.size u (reg_stable.below HOX.out hb) hb.size)
  rw [show mayG x.p = mayG rp by rw [HPX.out]] at HMY
  have HLO := hide_ (show w.heap.size < ((w.alloc (.cells #[.int .u8 0, .int .u64 0, .int .i64 0, .slice none 0 0, .slice none 0 0, .slice none 0 0, .int .u64 0, .slice none 0 0] 29)).alloc (.cells #[.pointer (some ⟨g, 0, none⟩)] 66)).heap.size by simp; omega)
  clear hp ho hl hr hg HREG HZ0 HT0
  obtain ⟨ki, inc, st, ⟨vA, vc, vl⟩, ⟨dA, dc, dl⟩, ⟨oA, oc, ol⟩, la, ⟨mA, mc, ml⟩⟩ := x
  simp only [RegM.v, RegM.box, Sl.v] at HR2 HG2 HZ2 HT2 HX2 HFL HMY HOX ⊢
  unfold takerV at HFL
  have hct := HT2w.out.cell
  have hw1 : w.heap.size + 1 < w2.heap.size := by omega
  have hw0 : w.heap.size < w2.heap.size := by omega
  go_wp2_with fail
  refine HFL.out.mono ?_
  rintro en w3 ⟨rfl, hb3⟩
  have HR3 := hide_ (HR2.out.below hb3)
  have HG3 := hide_ (grown_below HG2.out hb3)
  have HZ3 := hide_ (HZ2.out.below hb3)
  have HT3 := hide_ (HT2.out.below hb3)
  have HX3 := hide_ (HX2.out.below hb3)
  have HOX3 := hide_ (reg_local.below HOX.out hb3)
  have HB3 := hide_ hb3
  clear hb3 hct
  have hz3 : w2.heap.size < w3.heap.size := HX3.out.lt
  have hw2 : w.heap.size < w3.heap.size := by omega
  have hw3 : w.heap.size + 1 < w3.heap.size := by omega
  by_cases he : rs.2 = 0
  case neg =>
    have hq : G = (zeroP, rs) := by rw [HGS.out, if_neg he]
    have hd : (!(decide (rs.2 = 0))) = true := by simp [he]
    clear HGS
    subst hq
    clear he
    have r0 := (HZ3.out.cell 0).trans (show _ = some (.int .u8 0 : Value) from rfl)
    have g0 := HZ3.out.frozen 0
    have r1 := (HZ3.out.cell 1).trans (show _ = some (.int .u64 0 : Value) from rfl)
    have g1 := HZ3.out.frozen 1
    have r2 := (HZ3.out.cell 2).trans (show _ = some (.int .i64 0 : Value) from rfl)
    have g2 := HZ3.out.frozen 2
    have r3 := (HZ3.out.cell 3).trans (show _ = some (.slice none 0 0 : Value) from rfl)
    have g3 := HZ3.out.frozen 3
    have r4 := (HZ3.out.cell 4).trans (show _ = some (.slice none 0 0 : Value) from rfl)
    have g4 := HZ3.out.frozen 4
    have r5 := (HZ3.out.cell 5).trans (show _ = some (.slice none 0 0 : Value) from rfl)
    have g5 := HZ3.out.frozen 5
    have r6 := (HZ3.out.cell 6).trans (show _ = some (.int .u64 0 : Value) from rfl)
    have g6 := HZ3.out.frozen 6
    have r7 := (HZ3.out.cell 7).trans (show _ = some (.slice none 0 0 : Value) from rfl)
    have g7 := HZ3.out.frozen 7
    rw [hd]
    clear hd
    go_wp2
    refine bodyPost_ret (v := .agg #[.int .u8 0, .int .u64 0, .int .i64 0, .slice none 0 0, .slice none 0 0, .slice none 0 0, .int .u64 0, .slice none 0 0]) (by simp [results, Try.results13, go_sem, r0, r1, r2, r3, r4, r5, r6, r7]) rfl ?_
    clear r0 g0 r1 g1 r2 g2 r3 g3 r4 g4 r5 g5 r6 g6 r7 g7
    exact ⟨zeroM, rfl, rfl, zeroM_ok _ _, zeroM_lies _ _, ((((((((HR3.out.stored (by omega)).stored (by omega)).stored (by omega)).stored (by omega)).stored (by omega)).stored (by omega)).stored (by omega)).stored (by omega)), (grown_stored (grown_stored (grown_stored (grown_stored (grown_stored (grown_stored (grown_stored (grown_stored HG3.out (Nat.le_refl _)) (Nat.le_refl _)) (Nat.le_refl _)) (Nat.le_refl _)) (Nat.le_refl _)) (Nat.le_refl _)) (Nat.le_refl _)) (Nat.le_refl _))⟩
  have hd : (!(decide (rs.2 = 0))) = false := by simp [he]
  rw [hd]
  clear hd
  have HE0 := hide_ he
  have hG2 : G = if mayG rp then (rp, rs) else (zeroP, ([], 3)) := by rw [HGS.out, if_pos he]
  clear HGS he
  obtain ⟨q, hq⟩ : ∃ q, mayG rp = q := ⟨_, rfl⟩
  rw [hq] at HMY hG2
  have HGQ := hide_ hG2
  clear hq hG2
  have hcx := HX3.out.cell
  go_wp2_with fail
  refine (HMY.out _ HB3.out).mono ?_
  rintro en w4 ⟨rfl, hb4⟩
  have HR4 := hide_ (HR3.out.below hb4)
  have HG4 := hide_ (grown_below HG3.out hb4)
  have HZ4 := hide_ (HZ3.out.below hb4)
  have HT4 := hide_ (HT3.out.below hb4)
  have HX4 := hide_ (HX3.out.below hb4)
  have HOX4 := hide_ (reg_local.below HOX3.out hb4)
  clear hb4 hcx
  have hz4 : w2.heap.size < w4.heap.size := HX4.out.lt
  have hw4 : w.heap.size < w4.heap.size := by omega
  have hw5 : w.heap.size + 1 < w4.heap.size := by omega
  cases q with
  | true =>
    have hG3 : G = (rp, rs) := HGQ.out
    clear HGQ
    subst hG3
    have hcx := HX4.out.cell
    have r0 := (HZ4.out.cell 0).trans (show _ = some (.int .u8 0 : Value) from rfl)
    have g0 := HZ4.out.frozen 0
    have r1 := (HZ4.out.cell 1).trans (show _ = some (.int .u64 0 : Value) from rfl)
    have g1 := HZ4.out.frozen 1
    have r2 := (HZ4.out.cell 2).trans (show _ = some (.int .i64 0 : Value) from rfl)
    have g2 := HZ4.out.frozen 2
    have r3 := (HZ4.out.cell 3).trans (show _ = some (.slice none 0 0 : Value) from rfl)
    have g3 := HZ4.out.frozen 3
    have r4 := (HZ4.out.cell 4).trans (show _ = some (.slice none 0 0 : Value) from rfl)
    have g4 := HZ4.out.frozen 4
    have r5 := (HZ4.out.cell 5).trans (show _ = some (.slice none 0 0 : Value) from rfl)
    have g5 := HZ4.out.frozen 5
    have r6 := (HZ4.out.cell 6).trans (show _ = some (.int .u64 0 : Value) from rfl)
    have g6 := HZ4.out.frozen 6
    have r7 := (HZ4.out.cell 7).trans (show _ = some (.slice none 0 0 : Value) from rfl)
    have g7 := HZ4.out.frozen 7
    go_wp2
    refine bodyPost_ret (v := .agg #[.int .u8 ki, .int .u64 inc, .int .i64 st, .slice vA vl.length vc, .slice dA dl.length dc, .slice oA ol.length oc, .int .u64 la, .slice mA ml.length mc]) (by simp [results, Try.results13, go_sem, r0, r1, r2, r3, r4, r5, r6, r7]) rfl ?_
    clear r0 g0 r1 g1 r2 g2 r3 g3 r4 g4 r5 g5 r6 g6 r7 g7 hcx
    exact ⟨⟨ki, inc, st, ⟨vA, vc, vl⟩, ⟨dA, dc, dl⟩, ⟨oA, oc, ol⟩, la, ⟨mA, mc, ml⟩⟩, rfl, HPX.out, (keep_stored reg_local (keep_stored reg_local (keep_stored reg_local (keep_stored reg_local (keep_stored reg_local (keep_stored reg_local (keep_stored reg_local (keep_stored reg_local HOX4.out HLX.out HLO.out) HLX.out HLO.out) HLX.out HLO.out) HLX.out HLO.out) HLX.out HLO.out) HLX.out HLO.out) HLX.out HLO.out) HLX.out HLO.out), HLX.out.more (by simp; omega) (by have h1 := HG4.out.size; simp [World.setCell]; omega), ((((((((HR4.out.stored (by omega)).stored (by omega)).stored (by omega)).stored (by omega)).stored (by omega)).stored (by omega)).stored (by omega)).stored (by omega)), (grown_stored (grown_stored (grown_stored (grown_stored (grown_stored (grown_stored (grown_stored (grown_stored HG4.out (Nat.le_refl _)) (Nat.le_refl _)) (Nat.le_refl _)) (Nat.le_refl _)) (Nat.le_refl _)) (Nat.le_refl _)) (Nat.le_refl _)) (Nat.le_refl _))⟩
  | false =>
    have hG3 : G = (zeroP, ([], 3)) := HGQ.out
    clear HGQ
    subst hG3
    have hct := HT4.out.cell
    have HF := hide_ (Fail_live 3 (show Rdr w4 g rs.1 0 from HE0.out ▸ HR4.out) (by omega))
    go_wp2_with fail
    refine HF.out.mono ?_
    rintro en w5 ⟨rfl, hr5, hg5⟩
    have HR5 := hide_ hr5
    have HG5 := hide_ (grown_join HG4.out hg5)
    have HZ5 := hide_ (show BoxAt w5 w.heap.size #[.int .u8 0, .int .u64 0, .int .i64 0, .slice none 0 0, .slice none 0 0, .slice none 0 0, .int .u64 0, .slice none 0 0] 29 from box_far hg5 HZ4.out (by omega))
    have hw6 : w.heap.size < w5.heap.size := HZ5.out.lt
    clear hr5 hg5 hct
    have r0 := (HZ5.out.cell 0).trans (show _ = some (.int .u8 0 : Value) from rfl)
    have g0 := HZ5.out.frozen 0
    have r1 := (HZ5.out.cell 1).trans (show _ = some (.int .u64 0 : Value) from rfl)
    have g1 := HZ5.out.frozen 1
    have r2 := (HZ5.out.cell 2).trans (show _ = some (.int .i64 0 : Value) from rfl)
    have g2 := HZ5.out.frozen 2
    have r3 := (HZ5.out.cell 3).trans (show _ = some (.slice none 0 0 : Value) from rfl)
    have g3 := HZ5.out.frozen 3
    have r4 := (HZ5.out.cell 4).trans (show _ = some (.slice none 0 0 : Value) from rfl)
    have g4 := HZ5.out.frozen 4
    have r5 := (HZ5.out.cell 5).trans (show _ = some (.slice none 0 0 : Value) from rfl)
    have g5 := HZ5.out.frozen 5
    have r6 := (HZ5.out.cell 6).trans (show _ = some (.int .u64 0 : Value) from rfl)
    have g6 := HZ5.out.frozen 6
    have r7 := (HZ5.out.cell 7).trans (show _ = some (.slice none 0 0 : Value) from rfl)
    have g7 := HZ5.out.frozen 7
    go_wp2
    refine bodyPost_ret (v := .agg #[.int .u8 0, .int .u64 0, .int .i64 0, .slice none 0 0, .slice none 0 0, .slice none 0 0, .int .u64 0, .slice none 0 0]) (by simp [results, Try.results13, go_sem, r0, r1, r2, r3, r4, r5, r6, r7]) rfl ?_
    clear r0 g0 r1 g1 r2 g2 r3 g3 r4 g4 r5 g5 r6 g6 r7 g7
    exact ⟨zeroM, rfl, rfl, zeroM_ok _ _, zeroM_lies _ _, ((((((((HR5.out.stored (by omega)).stored (by omega)).stored (by omega)).stored (by omega)).stored (by omega)).stored (by omega)).stored (by omega)).stored (by omega)), (grown_stored (grown_stored (grown_stored (grown_stored (grown_stored (grown_stored (grown_stored (grown_stored HG5.out (Nat.le_refl _)) (Nat.le_refl _)) (Nat.le_refl _)) (Nat.le_refl _)) (Nat.le_refl _)) (Nat.le_refl _)) (Nat.le_refl _)) (Nat.le_refl _))⟩
end Go.Proofs.Ytkfejiolfkepkaa
