/-
  Texts of this claim put together: Clr7, Rem7, FirN7.
-/
import Derived.Test.YtpiikdinphnjbaaGreatJ45
import Derived.Test.YtpiikdinphnjbaaGreatJ17
import Derived.Test.YtpiikdinphnjbaaGreatJ18
/-
  Contracts of engine's clearCell, read and remove.
-/
namespace Go.Proofs.YtpiikdinphnjbaaGreat
open Go.RowKit

set_option maxRecDepth 100000 in
theorem clear1_any (x : CelM) (bi : Bool) (z zp zi zc : Nat) (cs : Array Value) (rinc inc ce : Int) (w : World) (hz : BoxAt w z cs 31) (hinc : cs[1]? = some (.int .u64 rinc)) (hp : BoxAt w zp #[.pointer (some ⟨z, 0, none⟩)] 58) (hi : BoxAt w zi #[.int .u64 inc] 25) (hc : BoxAt w zc #[.int .u64 ce] 25) (hb : decide (rinc = inc) = bi) :
    Calls Tryz.prog 66 #[celV x, .pointer (some ⟨zp, 0, none⟩), .pointer (some ⟨zi, 0, none⟩), .pointer (some ⟨zc, 0, none⟩)] w fun e w' => e = .returned (.bool (bi && decide (x.1 = ce))) ∧ Below w.heap.size w w' := by
  obtain ⟨cn, tg, ac, ar⟩ := x
  obtain ⟨W0, hW0⟩ : ∃ W0, w.alloc (.cells #[.int .u64 cn, .int .u8 tg, .int .i64 ac, .int .i64 ar] 51) = W0 := ⟨_, rfl⟩
  have HB := hide_ (show Below w.heap.size w W0 from hW0 ▸ (Below.refl _ _).alloc (Nat.le_refl _) _)
  have HBQ := hide_ (fun n => below_drawsN HB.out n)
  have h1 : W0.cell? ⟨z, 1, none⟩ = some (.int .u64 rinc) := by rw [← hW0, (hz.alloc _).cell]; exact hinc
  have h2 : W0.cell? ⟨zp, 0, none⟩ = some (.pointer (some ⟨z, 0, none⟩)) := by rw [← hW0, (hp.alloc _).cell]; rfl
  have h3 : W0.cell? ⟨zi, 0, none⟩ = some (.int .u64 inc) := by rw [← hW0, (hi.alloc _).cell]; rfl
  have h4 : W0.cell? ⟨zc, 0, none⟩ = some (.int .u64 ce) := by rw [← hW0, (hc.alloc _).cell]; rfl
  have h5 : W0.cell? ⟨w.heap.size, 0, none⟩ = some (.int .u64 cn) := by rw [← hW0, (BoxAt.new w _ _).cell]; rfl
  have z1 : z < W0.heap.size := by rw [← hW0]; exact (hz.alloc _).lt
  have z2 : zp < W0.heap.size := by rw [← hW0]; exact (hp.alloc _).lt
  have z3 : zi < W0.heap.size := by rw [← hW0]; exact (hi.alloc _).lt
  have z4 : zc < W0.heap.size := by rw [← hW0]; exact (hc.alloc _).lt
  have z5 : w.heap.size < W0.heap.size := by rw [← hW0]; simp
  have HW0 := hide_ hW0
  simp only [celV]
  obtain ⟨G, hG⟩ : ∃ G, (bi && decide (cn = ce)) = G := ⟨_, rfl⟩
  rw [hG]
  have HG := hide_ hG
  clear hG hW0 hz hp hi hc hinc
  cases bi with
  | false =>
    have d1 : (rinc == inc) = false := beq_eq_false_iff_ne.2 (by simpa using hb)
    have HP := hide_ (show G = false by rw [← HG.out]; rfl)
    clear hb
    go_enter Tryz.func66, Tryz.ntmps66
    go_upto_region 1 with fail
    rw [HW0.out]
    go_quiet (fail)
    go_wp2
    go_ret
    exact ⟨ret_boolT HP.out.symm, HBQ.out _⟩
  | true =>
    have d1 : (rinc == inc) = true := beq_iff_eq.2 (by simpa using hb)
    clear hb
    by_cases h : cn = ce
    · have d2 : (cn == ce) = true := beq_iff_eq.2 h
      have HP := hide_ (show G = true by rw [← HG.out]; simp [h])
      clear h
      go_enter Tryz.func66, Tryz.ntmps66
      go_upto_region 1 with fail
      rw [HW0.out]
      go_quiet (fail)
      go_wp2
      go_ret
      exact ⟨ret_boolT HP.out.symm, HBQ.out _⟩
    · have d2 : (cn == ce) = false := beq_eq_false_iff_ne.2 h
      have HP := hide_ (show G = false by rw [← HG.out]; simp [h])
      clear h
      go_enter Tryz.func66, Tryz.ntmps66
      go_upto_region 1 with fail
      rw [HW0.out]
      go_quiet (fail)
      go_wp2
      go_ret
      exact ⟨ret_boolT HP.out.symm, HBQ.out _⟩

set_option maxRecDepth 100000 in
set_option maxHeartbeats 6400000 in
theorem clear_any (x : RegM) (inc ce : Int) (lo z : Nat) (w : World) (h : At7 w lo z x) (hl : x.ou.l.length ≤ 50) :
    Calls Tryz.prog 44 #[.pointer (some ⟨z, 0, none⟩), .int .u64 inc, .int .u64 ce] w (Notes (clearG x.p inc ce).1 lo z w) := by
  have HX := hide_ h.box
  have HF := hide_ h.fresh
  have HLO := hide_ h.low
  have HSZ := hide_ h.size
  clear h
  obtain ⟨R, hR⟩ : ∃ R, (clearG x.p inc ce).1 = R := ⟨_, rfl⟩
  rw [hR]
  have HRG := hide_ hR
  clear hR
  obtain ⟨ki, rinc, st, ⟨vA, vc, vl⟩, ⟨dA, dc, dl⟩, ⟨oA, oc, ol⟩, la, ⟨mA, mc, ml⟩⟩ := x
  obtain ⟨no, hno⟩ : ∃ n, ol.length = n := ⟨_, rfl⟩
  have HNO := hide_ hno
  simp only [RegM.box, hno] at HX hl
  obtain ⟨bi, hbi⟩ : ∃ b, decide (rinc = inc) = b := ⟨_, rfl⟩
  obtain ⟨FL, hFL⟩ : ∃ FL, ol.filter (fun c => !(bi && decide (c.1 = ce))) = FL := ⟨_, rfl⟩
  have HP := hide_ (show R = ⟨ki, rinc, st, vl, dl.map DoneM.p, FL, la, ml⟩ by
    rw [← HRG.out, ← hFL]
    unfold clearG
    by_cases e : rinc = inc
    · rw [if_pos (by exact e), ← hbi, decide_eq_true e]
      simp [RegM.p]
    · rw [if_neg (by exact e), ← hbi, decide_eq_false e, filter_full (p := fun c : CelM => !(false && decide (c.1 = ce))) (l := ol) (fun _ _ => rfl)]
      rfl)
  obtain ⟨W0, hW0⟩ : ∃ W0, ((w.alloc (.cells #[.pointer (some ⟨z, 0, none⟩)] 58)).alloc (.cells #[.int .u64 inc] 25)).alloc (.cells #[.int .u64 ce] 25) = W0 := ⟨_, rfl⟩
  have hb0 : Below w.heap.size w W0 := hW0 ▸ (((Below.refl _ _).alloc (Nat.le_refl _) _).alloc (by simp) _).alloc (by simp; omega) _
  have hp0 : BoxAt W0 w.heap.size #[.pointer (some ⟨z, 0, none⟩)] 58 := hW0 ▸ ((BoxAt.new w _ _).alloc _).alloc _
  have hi0 : BoxAt W0 (w.heap.size + 1) #[.int .u64 inc] 25 := by
    have h := (BoxAt.new (w.alloc (.cells #[.pointer (some ⟨z, 0, none⟩)] 58)) #[.int .u64 inc] 25).alloc (.cells #[.int .u64 ce] 25)
    rw [hW0] at h
    simpa using h
  have hc0 : BoxAt W0 (w.heap.size + 1 + 1) #[.int .u64 ce] 25 := by
    have h := BoxAt.new ((w.alloc (.cells #[.pointer (some ⟨z, 0, none⟩)] 58)).alloc (.cells #[.int .u64 inc] 25)) #[.int .u64 ce] 25
    rw [hW0] at h
    simpa using h
  have hF0 : Fresh W0.drew lo _ := (HF.out.below hb0).below (Below.refl _ _).drew
  have hX0 : BoxAt W0.drew z _ _ := (HX.out.below hb0).below (Below.refl _ _).drew
  have hou : W0.drew.ownsRow lo 51 4 (.slice oA no oc) no (ol.flatMap celC) := by have := hF0.ou; simp only [hno] at this; exact this
  have hne : ∀ k, (Value.slice oA no oc).ownBlock = some k → lo ≤ k ∧ k < w.heap.size := fun k hk => by
    have h1 := HF.out.ou
    simp only [hno] at h1
    exact h1.lt k hk
  have HDEL := hide_ (del_any (fun c => bi && decide (c.1 = ce)) 66 #[.pointer (some ⟨w.heap.size, 0, none⟩), .pointer (some ⟨w.heap.size + 1, 0, none⟩), .pointer (some ⟨w.heap.size + 1 + 1, 0, none⟩)]
    (fun u => BoxAt u z #[.int .u8 ki, .int .u64 rinc, .int .i64 st, .slice vA vl.length vc, .slice dA dl.length dc, .slice oA no oc, .int .u64 la, .slice mA ml.length mc] 31 ∧ BoxAt u w.heap.size #[.pointer (some ⟨z, 0, none⟩)] 58 ∧ BoxAt u (w.heap.size + 1) #[.int .u64 inc] 25 ∧ BoxAt u (w.heap.size + 1 + 1) #[.int .u64 ce] 25)
    oA no oc ol lo W0.drew hou hno hl hF0.oi ⟨hX0, hp0, hi0, hc0⟩
    (fun u u' hu hg => ⟨(hg.block z hu.1.lt (fun e => by have := (hne z e.symm).1; have := HLO.out; omega)).trans hu.1, (hg.block _ hu.2.1.lt (fun e => by have := (hne _ e.symm).2; omega)).trans hu.2.1, (hg.block _ hu.2.2.1.lt (fun e => by have := (hne _ e.symm).2; omega)).trans hu.2.2.1, (hg.block _ hu.2.2.2.lt (fun e => by have := (hne _ e.symm).2; omega)).trans hu.2.2.2⟩)
    (fun _ _ => rfl)
    (fun x wr hI => clear1_any x bi z w.heap.size (w.heap.size + 1) (w.heap.size + 1 + 1) _ rinc inc ce wr hI.1 rfl hI.2.1 hI.2.2.1 hI.2.2.2 hbi))
  rw [hFL] at HDEL
  have HFL := hide_ hFL
  have HX0 := hide_ (show BoxAt W0 z _ _ from HX.out.below hb0)
  have HNE := hide_ (show some w.heap.size ≠ (Value.slice oA no oc).ownBlock from fun e => by have := (hne _ e.symm).2; omega)
  have HP0 := hide_ hp0
  have HFD := hide_ hF0
  have HB0 := hide_ hb0
  have HW0 := hide_ hW0
  clear hb0 hp0 hi0 hc0 hF0 hX0 hou hne hFL hW0 hno hbi
  go_enter Tryz.func44, Tryz.ntmps44
  go_upto_region 1 with fail
  rw [HW0.out]
  have hc0 := HX0.out.cell
  have hp0 := HP0.out.cell
  have hz0 : z < W0.heap.size := HX0.out.lt
  have hzp : w.heap.size < W0.heap.size := HP0.out.lt
  go_region_with (go_at_call 65; refine HDEL.out.mono ?_; rintro e1 w1 ⟨A1, c1, rfl, ho1, hg1⟩; have hb1 := (Below.refl lo W0.drew).grown hg1 (Nat.le_trans HSZ.out HB0.out.size) (fun k hk => (HFD.out.ou.lt k (by rw [HNO.out]; exact hk)).1); have HG1 := hide_ hg1; have HBX := hide_ (show BoxAt w1 z _ _ from (hb1.block z HLO.out).trans HX0.out); have hcb := HBX.out.cell; have hfb := HBX.out.frozen; have hzb := HBX.out.lt; have HPX := hide_ (show BoxAt w1 w.heap.size _ _ from (hg1.block w.heap.size HP0.out.lt HNE.out).trans HP0.out); have hcp := HPX.out.cell; have hzp1 := HPX.out.lt; have HO1 := hide_ ho1; have HB1 := hide_ hb1; clear ho1 hb1 hg1)
  all_goals
    go_wp2
    first | refine bodyPost_end (results_none rfl _ _ _) rfl ?_ | refine bodyPost_ret (results_none rfl _ _ _) rfl ?_
    rw [HP.out]
    have hg2 : W0.drew.grownBy w1 (Value.slice oA ol.length oc).ownBlock := by rw [HNO.out]; exact HG1.out
    have hfr : Fresh w1 lo ⟨ki, rinc, st, ⟨vA, vc, vl⟩, ⟨dA, dc, dl⟩, ⟨A1, c1, FL⟩, la, ⟨mA, mc, ml⟩⟩ :=
      ⟨HFD.out.num, HFD.out.va.beside HFD.out.ou (by decide) hg2, own_beside HFD.out.dn HFD.out.ou (by decide) hg2, fun d hd => ⟨(HFD.out.di d hd).1, (HFD.out.di d hd).2.beside HFD.out.ou (by decide) hg2⟩, HO1.out, fun y hy => by
        have hy2 : y ∈ ol.filter (fun c => !(bi && decide (c.1 = ce))) := by rw [HFL.out]; exact hy
        exact HFD.out.oi y (List.mem_filter.1 hy2).1, own_beside HFD.out.ma HFD.out.ou (by decide) hg2, HFD.out.mi⟩
    refine ⟨⟨ki, rinc, st, ⟨vA, vc, vl⟩, ⟨dA, dc, dl⟩, ⟨A1, c1, FL⟩, la, ⟨mA, mc, ml⟩⟩, rfl, rfl, ⟨heap_set 5 _ HBX.out, hfr.far HLO.out, HLO.out, ?_⟩, ?_⟩
    · have h1 := HB1.out.size
      have h2 := HB0.out.size
      have h3 := HSZ.out
      simp [World.setCell] at h1 ⊢
      omega
    · exact Kp.box (Kp.trans (Kp.of ((HB0.out.mono HSZ.out).trans (Below.refl _ _).drew) HLO.out) (Kp.of HB1.out HLO.out))

theorem read_any (x : RegM) (lo z : Nat) (w : World) (h : At7 w lo z x) :
    Calls Tryz.prog 41 #[.pointer (some ⟨z, 0, none⟩)] w (Does (readG x.p) lo z w) := by
  have HAT := hide_ h
  have hcx := h.box.cell
  have hz := h.box.lt
  have HLO := hide_ h.low
  obtain ⟨R, hR⟩ : ∃ R, readG x.p = R := ⟨_, rfl⟩
  rw [hR]
  have HR := hide_ hR
  clear h hR
  obtain ⟨ki, inc, st, ⟨vA, vc, vl⟩, ⟨dA, dc, dl⟩, ⟨oA, oc, ol⟩, la, ⟨mA, mc, ml⟩⟩ := x
  simp only [RegM.box] at hcx
  by_cases k1 : ki = 1
  · subst k1
    have HP := hide_ (show R = (RegM.p ⟨1, inc, st, ⟨vA, vc, vl⟩, ⟨dA, dc, dl⟩, ⟨oA, oc, ol⟩, la, ⟨mA, mc, ml⟩⟩, 0) by rw [← HR.out]; rfl)
    go_enter Tryz.func41, Tryz.ntmps41
    go_wp2
    go_ret
    rw [HP.out]
    exact ⟨_, rfl, rfl, HAT.out, Kp.refl _ _ _⟩
  · have HP := hide_ (show R = (RegM.p ⟨ki, inc, st, ⟨vA, vc, vl⟩, ⟨dA, dc, dl⟩, ⟨oA, oc, ol⟩, la, ⟨mA, mc, ml⟩⟩, 11) by rw [← HR.out]; unfold readG; rw [if_neg (by exact k1)])
    have d1 : (ki != 1) = true := bne_iff_ne.2 k1
    clear k1
    go_enter Tryz.func41, Tryz.ntmps41
    go_wp2
    go_ret
    rw [HP.out]
    exact ⟨_, rfl, rfl, HAT.out, Kp.refl _ _ _⟩
end Go.Proofs.YtpiikdinphnjbaaGreat

/-
  Contract of engine's remove.
-/
namespace Go.Proofs.YtpiikdinphnjbaaGreat
open Go.RowKit

set_option maxRecDepth 100000 in
set_option maxHeartbeats 6400000 in
theorem remove_any (x : RegM) (lo z : Nat) (w : World) (h : At7 w lo z x) :
    Calls Tryz.prog 42 #[.pointer (some ⟨z, 0, none⟩)] w (Does (removeG x.p) lo z w) := by
  have HAT := hide_ h
  have HX := hide_ h.box
  have HF := hide_ h.fresh
  have hz := h.box.lt
  have HLO := hide_ h.low
  have HSZ := hide_ h.size
  obtain ⟨R, hR⟩ : ∃ R, removeG x.p = R := ⟨_, rfl⟩
  rw [hR]
  have HR := hide_ hR
  have m1 := (own_bounds h.fresh.ou).2
  clear h hR
  obtain ⟨ki, inc, st, ⟨vA, vc, vl⟩, ⟨dA, dc, dl⟩, ⟨oA, oc, ol⟩, la, ⟨mA, mc, ml⟩⟩ := x
  simp only [RegM.box] at HX
  have hcx := HX.out.cell
  by_cases k1 : ki = 1
  case neg =>
    have HP := hide_ (show R = (RegM.p ⟨ki, inc, st, ⟨vA, vc, vl⟩, ⟨dA, dc, dl⟩, ⟨oA, oc, ol⟩, la, ⟨mA, mc, ml⟩⟩, 11) by rw [← HR.out]; unfold removeG; rw [if_neg (by exact k1)])
    have d1 : (ki != 1) = true := bne_iff_ne.2 k1
    clear k1
    go_enter Tryz.func42, Tryz.ntmps42
    go_wp2
    go_ret
    rw [HP.out]
    exact ⟨_, rfl, rfl, HAT.out, Kp.refl _ _ _⟩
  subst k1
  by_cases k2 : ol.length = 0
  case neg =>
    have HP := hide_ (show R = (RegM.p ⟨1, inc, st, ⟨vA, vc, vl⟩, ⟨dA, dc, dl⟩, ⟨oA, oc, ol⟩, la, ⟨mA, mc, ml⟩⟩, 16) by rw [← HR.out]; unfold removeG; rw [if_pos (by rfl), if_neg (by exact k2)])
    have k3 : 0 < ol.length := by omega
    clear k2
    go_enter Tryz.func42, Tryz.ntmps42
    go_wp2
    go_ret
    rw [HP.out]
    exact ⟨_, rfl, rfl, HAT.out, Kp.refl _ _ _⟩
  have HP := hide_ (show R = (⟨2, inc, 0, [], dl.map DoneM.p, [], 0, ml⟩, 0) by rw [← HR.out]; unfold removeG; rw [if_pos (by rfl), if_pos (by exact k2)]; rfl)
  have hfd := HF.out
  have HFR := hide_ (⟨⟨by unfold U8; simp, hfd.num.2.1, by unfold I64; simp, by unfold U64; simp⟩, ⟨World.ownsRow_nil _ _ _ _, by simp⟩, hfd.dn, hfd.di, World.ownsRow_nil _ _ _ _, by simp, hfd.ma, hfd.mi⟩ : Fresh w lo ⟨2, inc, 0, ⟨none, 0, []⟩, ⟨dA, dc, dl⟩, ⟨none, 0, []⟩, 0, ⟨mA, mc, ml⟩⟩)
  obtain ⟨W, hW⟩ : ∃ W, ((((((((w.setCell ⟨z, 0, none⟩ (.int .u8 2)).setCell ⟨z, 1, none⟩ (.int .u64 inc)).setCell ⟨z, 2, none⟩ (.int .i64 0)).setCell ⟨z, 3, none⟩ (.slice none 0 0)).setCell ⟨z, 4, none⟩ (.slice dA dl.length dc)).setCell ⟨z, 5, none⟩ (.slice none 0 0)).setCell ⟨z, 6, none⟩ (.int .u64 0)).setCell ⟨z, 7, none⟩ (.slice mA ml.length mc)) = W := ⟨_, rfl⟩
  have hat : At7 W lo z ⟨2, inc, 0, ⟨none, 0, []⟩, ⟨dA, dc, dl⟩, ⟨none, 0, []⟩, 0, ⟨mA, mc, ml⟩⟩ := by
    refine ⟨?_, ?_, HLO.out, ?_⟩
    · rw [← hW]
      simp only [RegM.box, List.length_nil]
      exact heap_set_all8 HX.out
    · rw [← hW]
      exact (Fresh.far (b := z) (i := 7) (u := .slice mA ml.length mc) (Fresh.far (b := z) (i := 6) (u := .int .u64 0) (Fresh.far (b := z) (i := 5) (u := .slice none 0 0) (Fresh.far (b := z) (i := 4) (u := .slice dA dl.length dc) (Fresh.far (b := z) (i := 3) (u := .slice none 0 0) (Fresh.far (b := z) (i := 2) (u := .int .i64 0) (Fresh.far (b := z) (i := 1) (u := .int .u64 inc) (Fresh.far (b := z) (i := 0) (u := .int .u8 2) HFR.out HLO.out) HLO.out) HLO.out) HLO.out) HLO.out) HLO.out) HLO.out) HLO.out)
    · rw [← hW]
      have := HSZ.out
      simp [World.setCell]
      omega
  have hkp : Kp z lo w W := by
    rw [← hW]
    exact (Kp.box (Kp.box (Kp.box (Kp.box (Kp.box (Kp.box (Kp.box (Kp.box (Kp.refl z lo w)))))))))
  have HOUT := hide_ (show Does R lo z w (.returned (.int .i64 0)) W.drew from by
    rw [HP.out]
    exact ⟨_, rfl, rfl, hat.below (Below.refl _ _).drew, hkp.trans (Kp.of (Below.refl _ _).drew HLO.out)⟩)
  have HW := hide_ hW
  have r0 := (HX.out.cell 0).trans (show _ = some (.int .u8 1 : Value) from rfl)
  have g0 := HX.out.frozen 0
  have r1 := (HX.out.cell 1).trans (show _ = some (.int .u64 inc : Value) from rfl)
  have g1 := HX.out.frozen 1
  have r2 := (HX.out.cell 2).trans (show _ = some (.int .i64 st : Value) from rfl)
  have g2 := HX.out.frozen 2
  have r3 := (HX.out.cell 3).trans (show _ = some (.slice vA vl.length vc : Value) from rfl)
  have g3 := HX.out.frozen 3
  have r4 := (HX.out.cell 4).trans (show _ = some (.slice dA dl.length dc : Value) from rfl)
  have g4 := HX.out.frozen 4
  have r5 := (HX.out.cell 5).trans (show _ = some (.slice oA ol.length oc : Value) from rfl)
  have g5 := HX.out.frozen 5
  have r6 := (HX.out.cell 6).trans (show _ = some (.int .u64 la : Value) from rfl)
  have g6 := HX.out.frozen 6
  have r7 := (HX.out.cell 7).trans (show _ = some (.slice mA ml.length mc : Value) from rfl)
  have g7 := HX.out.frozen 7
  obtain rfl : ol = [] := List.length_eq_zero_iff.1 k2
  clear hfd hW hat hkp k2
  go_enter Tryz.func42, Tryz.ntmps42
  go_upto_region 5 with fail
  clear hcx
  go_region
  go_wp2
  rw [HW.out]
  go_ret
  exact HOUT.out
end Go.Proofs.YtpiikdinphnjbaaGreat

/-
  The numbers that an action comes to fit; engine's hasRoom.
-/
namespace Go.Proofs.YtpiikdinphnjbaaGreat
open Go.RowKit

theorem evalR_I64 {l : List (Int × Int)} {vars : List Int} {arg : Int} (hl : ∀ t ∈ l, TokIn t) (hv : ∀ v ∈ vars, I64 v) (ha : I64 arg) : I64 (evalR l vars arg).1 := by
  unfold evalR
  split
  · cases hp : pv l vars arg l.length with
    | none => simp only; unfold I64; simp
    | some v => exact pv_I64 (fun t ht => (hl t ht).2.2) hv ha _ _ (Nat.le_refl _) hp
  · simp only
    unfold I64
    simp
theorem setRun_I64 {l : List SetM} {vars : List Int} {arg : Int} (hl : ∀ s ∈ l, ∀ t ∈ s.val.l, TokIn t) (hv : ∀ v ∈ vars, I64 v) (ha : I64 arg) : ∀ {j : Nat} {cur : List Int}, setRun l vars arg j = some cur → ∀ y ∈ cur, I64 y := by
  intro j
  induction j with
  | zero => intro cur h; injection h with h; subst h; exact hv
  | succ j ih =>
    intro cur h
    change (setRun l vars arg j).bind _ = some cur at h
    cases hp : setRun l vars arg j with
    | none => rw [hp] at h; cases h
    | some c =>
      rw [hp] at h
      simp only [Option.bind_some] at h
      cases hs : l[j]? with
      | none => rw [hs] at h; cases h
      | some s =>
        rw [hs] at h
        simp only at h
        unfold setOne at h
        split at h
        · injection h with h
          subst h
          intro y hy
          rcases List.mem_or_eq_of_mem_set hy with hy | rfl
          · exact ih hp y hy
          · exact evalR_I64 (hl s (List.mem_of_getElem? hs)) hv ha
        · cases h
theorem emRun_I64 {l : List EmM} {vars : List Int} {arg : Int} (hl : ∀ s ∈ l, (0 ≤ s.tg ∧ s.tg ≤ 255) ∧ I64 s.ac ∧ ∀ t ∈ s.arg.l, TokIn t) (hv : ∀ v ∈ vars, I64 v) (ha : I64 arg) : ∀ {j : Nat} {cur : List (Int × Int × Int)}, emRun l vars arg j = some cur → ∀ y ∈ cur, U8 y.1 ∧ I64 y.2.1 ∧ I64 y.2.2 := by
  intro j
  induction j with
  | zero => intro cur h; injection h with h; subst h; simp
  | succ j ih =>
    intro cur h
    change (emRun l vars arg j).bind _ = some cur at h
    cases hp : emRun l vars arg j with
    | none => rw [hp] at h; cases h
    | some c =>
      rw [hp] at h
      simp only [Option.bind_some] at h
      cases hs : l[j]? with
      | none => rw [hs] at h; cases h
      | some s =>
        rw [hs] at h
        simp only at h
        split at h
        · injection h with h
          subst h
          intro y hy
          rcases List.mem_append.1 hy with hy | hy
          · exact ih hp y hy
          · simp at hy
            subst hy
            have := hl s (List.mem_of_getElem? hs)
            exact ⟨this.1, this.2.1, evalR_I64 this.2.2 hv ha⟩
        · cases h
/-- what an action comes to, whether it can be done or not -/
theorem fireR_nums {w : World} {B : Nat} {t : Sl RuM} (ht : rusOk w B t) (st vs sa ac pa : Int) {vars : List Int} {arg : Int} (hv : ∀ v ∈ vars, I64 v) (ha : I64 arg) :
    I64 (fireR st vs t.l sa ac pa vars arg).1 ∧ (∀ y ∈ (fireR st vs t.l sa ac pa vars arg).2.1, I64 y) ∧ ∀ y ∈ (fireR st vs t.l sa ac pa vars arg).2.2.1, U8 y.1 ∧ I64 y.2.1 ∧ I64 y.2.2 := by
  unfold fireR
  split
  · cases hi : idxO (takX sa ac pa vars arg t.l) t.l.length with
    | none => exact ⟨by unfold I64; simp, by simp, by simp⟩
    | some k =>
      simp only
      cases hk : t.l[k]? with
      | none => exact ⟨by unfold I64; simp, by simp, by simp⟩
      | some r =>
        simp only
        have hr := ht.2.2.2 r (List.mem_of_getElem? hk)
        cases hs : setAllR r.se.l vars arg with
        | none => rw [fireOut_no1]; exact ⟨by unfold I64; simp, by simp, by simp⟩
        | some a =>
          cases hc : emAllR r.em.l vars arg with
          | none => rw [fireOut_no2]; exact ⟨by unfold I64; simp, by simp, by simp⟩
          | some c =>
            rw [fireOut_yes]
            exact ⟨hr.1.2.2.2, setRun_I64 (fun s hs t ht => (hr.2.2.1.2.2.2 s hs).2.2.2.2 t ht) hv ha hs, emRun_I64 (fun s hs => ⟨(hr.2.2.2.2.2.2 s hs).1, (hr.2.2.2.2.2.2 s hs).2.1, fun t ht => (hr.2.2.2.2.2.2 s hs).2.2.2.2.2 t ht⟩) hv ha hc⟩
  · exact ⟨by unfold I64; simp, by simp, by simp⟩

set_option maxRecDepth 100000 in
theorem hasRoom_any (x : RegM) (n : Nat) (w : World) (hx : U64 x.la) (hl : x.ou.l.length ≤ 50) (hn : n ≤ 50) :
    Calls Tryz.prog 62 #[x.v, .int .i64 n] w fun e w' => e = .returned (.bool (roomB x.p n)) ∧ Below w.heap.size w w' := by
  obtain ⟨ki, inc, st, ⟨vA, vc, vl⟩, ⟨dA, dc, dl⟩, ⟨oA, oc, ol⟩, la, ⟨mA, mc, ml⟩⟩ := x
  obtain ⟨no, hno⟩ : ∃ n, ol.length = n := ⟨_, rfl⟩
  simp only [RegM.v, Sl.v, hno] at hx hl ⊢
  obtain ⟨G, hG⟩ : ∃ G, roomB (RegM.p ⟨ki, inc, st, ⟨vA, vc, vl⟩, ⟨dA, dc, dl⟩, ⟨oA, oc, ol⟩, la, ⟨mA, mc, ml⟩⟩) n = G := ⟨_, rfl⟩
  have HG := hide_ (show G = (decide (no + n ≤ 8) && decide (la ≤ 9223372036854775808 - (n : Int))) by rw [← hG, ← hno]; rfl)
  rw [hG]
  have HW := hide_ (show Below w.heap.size w (w.alloc (.cells #[.int .u8 ki, .int .u64 inc, .int .i64 st, .slice vA vl.length vc, .slice dA dl.length dc, .slice oA no oc, .int .u64 la, .slice mA ml.length mc] 31)) from (Below.refl _ _).alloc (Nat.le_refl _) _)
  clear hG hno
  have hx1 := hx.1
  have hx2 := hx.2
  by_cases h1 : no + n ≤ 8
  case neg =>
    have d1 : decide ((no : Int) + (n : Int) ≤ 8) = false := decide_eq_false (by omega)
    have HP := hide_ (show G = false by rw [HG.out]; simp [h1])
    clear h1
    go_enter Tryz.func62, Tryz.ntmps62
    go_wp2
    go_ret
    exact ⟨ret_boolT HP.out.symm, HW.out⟩
  have d1 : decide ((no : Int) + (n : Int) ≤ 8) = true := decide_eq_true (by omega)
  have hw1 : IntKind.u64.wrap (n : Int) = n := by rw [IntKind.wrap_u64]; omega
  have hw2 : IntKind.u64.wrap (9223372036854775808 - (n : Int)) = 9223372036854775808 - (n : Int) := by rw [IntKind.wrap_u64]; omega
  by_cases h2 : la ≤ 9223372036854775808 - (n : Int)
  · have d2 : decide (la ≤ 9223372036854775808 - (n : Int)) = true := decide_eq_true h2
    have HP := hide_ (show G = true by rw [HG.out]; simp [h1, h2])
    clear h2 h1
    go_enter Tryz.func62, Tryz.ntmps62
    go_wp2
    go_ret
    exact ⟨ret_boolT HP.out.symm, HW.out⟩
  · have d2 : decide (la ≤ 9223372036854775808 - (n : Int)) = false := decide_eq_false h2
    have HP := hide_ (show G = false by rw [HG.out]; simp [h2])
    clear h2 h1
    go_enter Tryz.func62, Tryz.ntmps62
    go_wp2
    go_ret
    exact ⟨ret_boolT HP.out.symm, HW.out⟩
end Go.Proofs.YtpiikdinphnjbaaGreat
