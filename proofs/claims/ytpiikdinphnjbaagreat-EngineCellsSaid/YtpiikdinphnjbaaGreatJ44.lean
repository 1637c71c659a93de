/-
  Texts of this claim put together: Note7, Again7.
-/
import Derived.Test.YtpiikdinphnjbaaGreatJ43
/-
  Contract of engine's note.
-/
namespace Go.Proofs.YtpiikdinphnjbaaGreat
open Go.RowKit

theorem own_beside {w w1 : World} {lo : Nat} {e1 e2 : TypeId} {s1 s2 n1 n2 b2 : Nat} {v1 v2 : Value} {x1 x2 : List Value} (h1 : w.ownsRow lo e1 s1 v1 n1 x1) (h2 : w.ownsRow b2 e2 s2 v2 n2 x2) (he : e1 ≠ e2) (hg : w.grownBy w1 v2.ownBlock) : w1.ownsRow lo e1 s1 v1 n1 x1 := by
  refine h1.kept hg ?_
  rcases hv : v2.ownBlock with _ | k
  · rcases hv2 : v1.ownBlock with _ | k2
    · exact .inl rfl
    · exact .inr (by simp)
  · exact .inr (own_apart h1 h2 he hv)
theorem OwnVars.beside {w w1 : World} {lo : Nat} {e2 : TypeId} {s2 n2 b2 : Nat} {s : IntS} {v2 : Value} {x2 : List Value} (h1 : OwnVars w lo s) (h2 : w.ownsRow b2 e2 s2 v2 n2 x2) (he : 2 ≠ e2) (hg : w.grownBy w1 v2.ownBlock) : OwnVars w1 lo s := ⟨own_beside h1.1 h2 he hg, h1.2⟩

set_option maxRecDepth 100000 in
set_option maxHeartbeats 12800000 in
theorem note_any (x : RegM) (o : OpM) (y : RepM) (lo z : Nat) (w : World) (h : At7 w lo z x) (hr : Ris (fun d : DoneM => d.cl) x.dn.l) (hl : x.dn.l.length ≤ 50) (ho : U8 o.cl ∧ U64 o.sq) (hy : (I64 y.er ∧ U64 y.inc ∧ I64 y.st) ∧ OwnVars w lo y.va) :
    Calls Tryz.prog 21 #[.pointer (some ⟨z, 0, none⟩), o.v, y.v] w (Notes (noteG x.p o y.p) lo z w) := by
  have HX := hide_ h.box
  have HF := hide_ h.fresh
  have HLO := hide_ h.low
  have HSZ := hide_ h.size
  have HAT := hide_ h
  have HY := hide_ hy
  have HOC := hide_ ho
  have HR := hide_ hr
  have HLN := hide_ hl
  clear h hy ho hr hl
  obtain ⟨R, hR⟩ : ∃ R, noteG x.p o y.p = R := ⟨_, rfl⟩
  have HRG := hide_ hR
  rw [hR]
  clear hR
  obtain ⟨ki, inc, st, ⟨vA, vc, vl⟩, ⟨dA, dc, dl⟩, ⟨oA, oc, ol⟩, la, ⟨mA, mc, ml⟩⟩ := x
  obtain ⟨oki, ke, cl, sq, ac, pa, ar, so, oinc, ce⟩ := o
  obtain ⟨er, yi, ys, ⟨yA, yc, yl⟩⟩ := y
  simp only [RegM.box, OpM.v, RepM.v, Sl.v] at HX HOC HY HR HLN ⊢
  obtain ⟨W1, hW1⟩ : ∃ W1, (w.alloc (.cells #[.int .u8 oki, .int .u8 ke, .int .u8 cl, .int .u64 sq, .int .i64 ac, .int .i64 pa, .int .i64 ar, .int .u8 so, .int .u64 oinc, .int .u64 ce] 33)).alloc (.cells #[.int .i64 er, .int .u64 yi, .int .i64 ys, .slice yA yl.length yc] 38) = W1 := ⟨_, rfl⟩
  have hb1 : Below w.heap.size w W1 := hW1 ▸ ((Below.refl _ _).alloc (Nat.le_refl _) _).alloc (by simp) _
  have HB1 := hide_ hb1
  have HW1 := hide_ hW1
  clear hb1 hW1
  by_cases c0 : cl = 0
  case pos =>
    subst c0
    have HP := hide_ (show R = RegM.p ⟨ki, inc, st, ⟨vA, vc, vl⟩, ⟨dA, dc, dl⟩, ⟨oA, oc, ol⟩, la, ⟨mA, mc, ml⟩⟩ by rw [← HRG.out]; rfl)
    go_enter Tryz.func21, Tryz.ntmps21
    go_wp2
    rw [HW1.out]
    first | refine bodyPost_end (results_none rfl _ _ _) rfl ?_ | refine bodyPost_ret (results_none rfl _ _ _) rfl ?_
    rw [HP.out]
    exact ⟨_, rfl, rfl, HAT.out.below HB1.out, Kp.of (HB1.out.mono HSZ.out) HLO.out⟩
  have d0 : (cl == 0) = false := beq_eq_false_iff_ne.2 c0
  by_cases k0 : ki = 0
  case pos =>
    subst k0
    have HP := hide_ (show R = RegM.p ⟨0, inc, st, ⟨vA, vc, vl⟩, ⟨dA, dc, dl⟩, ⟨oA, oc, ol⟩, la, ⟨mA, mc, ml⟩⟩ by rw [← HRG.out]; unfold noteG; rw [if_neg (by exact c0), if_pos (by rfl)])
    clear c0
    have hcx := (HX.out.below HB1.out).cell
    have hz1 : z < W1.heap.size := (HX.out.below HB1.out).lt
    go_enter Tryz.func21, Tryz.ntmps21
    have hcx0 := HX.out.cell
    have hz0 : z < w.heap.size := HX.out.lt
    go_wp2
    rw [HW1.out]
    first | refine bodyPost_end (results_none rfl _ _ _) rfl ?_ | refine bodyPost_ret (results_none rfl _ _ _) rfl ?_
    rw [HP.out]
    exact ⟨_, rfl, rfl, HAT.out.below HB1.out, Kp.of (HB1.out.mono HSZ.out) HLO.out⟩
  have e0 : (ki == 0) = false := beq_eq_false_iff_ne.2 k0
  have HP := hide_ (show R = ⟨ki, inc, st, vl, (putL (fun d : DoneM => d.cl) dl ⟨cl, sq, er, yi, ys, ⟨yA, yc, yl⟩⟩).map DoneM.p, ol, la, ml⟩ by
    rw [← HRG.out]
    unfold noteG
    rw [if_neg (by exact c0), if_neg (by exact k0)]
    simp only [RegM.p, RepM.p]
    rw [show ((cl, sq, er, yi, ys, yl) : DoneP) = DoneM.p ⟨cl, sq, er, yi, ys, ⟨yA, yc, yl⟩⟩ from rfl, putL_map (key := fun d : DoneM => d.cl) (kb := fun d : DoneP => d.1) (f := DoneM.p) (fun _ => rfl)])
  clear c0 k0
  obtain ⟨nd, hnd⟩ : ∃ n, dl.length = n := ⟨_, rfl⟩
  have HND := hide_ hnd
  rw [hnd] at HLN
  simp only [hnd] at HX
  obtain ⟨W0, hW0⟩ : ∃ W0, W1.alloc (.cells #[.int .u8 cl, .int .u64 sq, .int .i64 er, .int .u64 yi, .int .i64 ys, .slice yA yl.length yc] 63) = W0 := ⟨_, rfl⟩
  have hb0 : Below w.heap.size w W0 := hW0 ▸ HB1.out.alloc HB1.out.size _
  have HXD := hide_ (show BoxAt W0 (w.heap.size + 1 + 1) #[.int .u8 cl, .int .u64 sq, .int .i64 er, .int .u64 yi, .int .i64 ys, .slice yA yl.length yc] 63 from by
    have h := BoxAt.new W1 #[.int .u8 cl, .int .u64 sq, .int .i64 er, .int .u64 yi, .int .i64 ys, .slice yA yl.length yc] 63
    rw [hW0, ← HW1.out] at h
    simpa using h)
  have HX0 := hide_ (HX.out.below hb0)
  have HF0 := hide_ (HF.out.below hb0)
  have HB0 := hide_ hb0
  have HFD := hide_ (show Fresh W0.drew lo _ from HF0.out.below (Below.refl _ _).drew)
  have HPU := hide_ (ptInDone_any dA nd dc dl ⟨cl, sq, er, yi, ys, ⟨yA, yc, yl⟩⟩ lo W0.drew (by have := HFD.out.dn; simp only [hnd] at this; exact this) hnd HLN.out (Nat.le_trans HSZ.out hb0.size) HR.out)
  simp only [DoneM.v, Sl.v] at HPU
  obtain ⟨PL, hPL⟩ : ∃ PL, putL (fun d : DoneM => d.cl) dl ⟨cl, sq, er, yi, ys, ⟨yA, yc, yl⟩⟩ = PL := ⟨_, rfl⟩
  rw [hPL] at HPU HP
  have HPL := hide_ hPL
  have HW0 := hide_ (show (((w.alloc (.cells #[.int .u8 oki, .int .u8 ke, .int .u8 cl, .int .u64 sq, .int .i64 ac, .int .i64 pa, .int .i64 ar, .int .u8 so, .int .u64 oinc, .int .u64 ce] 33)).alloc (.cells #[.int .i64 er, .int .u64 yi, .int .i64 ys, .slice yA yl.length yc] 38)).alloc (.cells #[.int .u8 cl, .int .u64 sq, .int .i64 er, .int .u64 yi, .int .i64 ys, .slice yA yl.length yc] 63)) = W0 by rw [HW1.out]; exact hW0)
  have hcx := HX.out.cell
  have hz : z < w.heap.size := HX.out.lt
  clear hb0 hW0 hnd hPL HW1 HB1
  go_enter Tryz.func21, Tryz.ntmps21
  go_upto_region 3 with fail
  rw [HW0.out]
  clear hcx
  have hc0 := HX0.out.cell
  have hd0 := HXD.out.cell
  have hz0 : z < W0.heap.size := HX0.out.lt
  have hzd : w.heap.size + 1 + 1 < W0.heap.size := HXD.out.lt
  go_region_with (go_at_call 45; refine HPU.out.mono ?_; rintro e1 w1 ⟨A1, c1, rfl, ho1, hg1⟩; have hb1 := (Below.refl lo W0.drew).grown hg1 (Nat.le_trans HSZ.out HB0.out.size) (fun k hk => (HFD.out.dn.lt k (by rw [HND.out]; exact hk)).1); have HG1 := hide_ hg1; have HBX := hide_ (show BoxAt w1 z _ _ from (hb1.block z HLO.out).trans HX0.out); have hcb := HBX.out.cell; have hfb := HBX.out.frozen; have hzb := HBX.out.lt; have HO1 := hide_ ho1; have HB1 := hide_ hb1; clear ho1 hb1 hg1)
  all_goals
    go_wp2
    first | refine bodyPost_end (results_none rfl _ _ _) rfl ?_ | refine bodyPost_ret (results_none rfl _ _ _) rfl ?_
    rw [HP.out]
    have hg2 : W0.drew.grownBy w1 (Value.slice dA dl.length dc).ownBlock := by rw [HND.out]; exact HG1.out
    have hfr : Fresh w1 lo ⟨ki, inc, st, ⟨vA, vc, vl⟩, ⟨A1, c1, PL⟩, ⟨oA, oc, ol⟩, la, ⟨mA, mc, ml⟩⟩ :=
      ⟨HFD.out.num, HFD.out.va.beside HFD.out.dn (by decide) hg2, HO1.out, fun d hd => by
        have hd2 : d ∈ putL (fun d : DoneM => d.cl) dl ⟨cl, sq, er, yi, ys, ⟨yA, yc, yl⟩⟩ := by rw [HPL.out]; exact hd
        rcases putL_mem hd2 with rfl | hd3
        · have hyv : OwnVars W0.drew lo ⟨yA, yc, yl⟩ := (HY.out.2.below HB0.out).below (Below.refl _ _).drew
          exact ⟨⟨HOC.out.1, HOC.out.2, HY.out.1.1, HY.out.1.2.1, HY.out.1.2.2⟩, hyv.beside HFD.out.dn (by decide) hg2⟩
        · exact ⟨(HFD.out.di d hd3).1, (HFD.out.di d hd3).2.beside HFD.out.dn (by decide) hg2⟩, own_beside HFD.out.ou HFD.out.dn (by decide) hg2, HFD.out.oi, own_beside HFD.out.ma HFD.out.dn (by decide) hg2, HFD.out.mi⟩
    refine ⟨⟨ki, inc, st, ⟨vA, vc, vl⟩, ⟨A1, c1, PL⟩, ⟨oA, oc, ol⟩, la, ⟨mA, mc, ml⟩⟩, rfl, rfl, ⟨heap_set 4 _ HBX.out, hfr.far HLO.out, HLO.out, ?_⟩, ?_⟩
    · have h1 := HB1.out.size
      have h2 := HB0.out.size
      have h3 := HSZ.out
      simp [World.setCell] at h1 ⊢
      omega
    · exact Kp.box (Kp.trans (Kp.of ((HB0.out.mono HSZ.out).trans (Below.refl _ _).drew) HLO.out) (Kp.of HB1.out HLO.out))
end Go.Proofs.YtpiikdinphnjbaaGreat

/-
  Contract of engine's again.
-/
namespace Go.Proofs.YtpiikdinphnjbaaGreat
open Go.RowKit

theorem below_drawsN {B : Nat} {a w : World} (h : Below B a w) (n : Nat) : Below B a (w.drewN n) := h.trans ⟨rfl, rfl, rfl, Nat.le_refl _, fun _ _ => rfl⟩

set_option maxRecDepth 100000 in
theorem again1_any (d : DoneM) (o : OpM) (zo : Nat) (w : World) (h : BoxAt w zo o.box 33) :
    Calls Tryz.prog 38 #[DoneM.v d, .pointer (some ⟨zo, 0, none⟩)] w fun e w' => e = .returned (.bool (againX o d.p)) ∧ Below w.heap.size w w' := by
  obtain ⟨cl, sq, er, inc, st, ⟨vA, vc, va⟩⟩ := d
  obtain ⟨oki, ke, ocl, osq, ac, pa, ar, so, oinc, ce⟩ := o
  simp only [DoneM.v, Sl.v, OpM.box] at h ⊢
  obtain ⟨G, hG⟩ : ∃ G, againX ⟨oki, ke, ocl, osq, ac, pa, ar, so, oinc, ce⟩ (DoneM.p ⟨cl, sq, er, inc, st, ⟨vA, vc, va⟩⟩) = G := ⟨_, rfl⟩
  have HG := hide_ (show G = (decide (cl = ocl) && decide (osq ≤ sq)) by rw [← hG]; rfl)
  rw [hG]
  have HW := hide_ (show Below w.heap.size w (w.alloc (.cells #[.int .u8 cl, .int .u64 sq, .int .i64 er, .int .u64 inc, .int .i64 st, .slice vA va.length vc] 63)) from (Below.refl _ _).alloc (Nat.le_refl _) _)
  have hcx := (h.alloc (.cells #[.int .u8 cl, .int .u64 sq, .int .i64 er, .int .u64 inc, .int .i64 st, .slice vA va.length vc] 63)).cell
  have hz := h.lt
  clear hG h
  by_cases h1 : cl = ocl
  case neg =>
    have d1 : (cl == ocl) = false := beq_eq_false_iff_ne.2 h1
    have HP := hide_ (show G = false by rw [HG.out]; simp [h1])
    clear h1
    go_enter Tryz.func38, Tryz.ntmps38
    go_wp2
    go_ret
    exact ⟨ret_boolT HP.out.symm, HW.out⟩
  subst h1
  by_cases h2 : osq ≤ sq
  · have d2 : decide (osq ≤ sq) = true := decide_eq_true h2
    have HP := hide_ (show G = true by rw [HG.out]; simp [h2])
    clear h2
    go_enter Tryz.func38, Tryz.ntmps38
    go_wp2
    go_ret
    exact ⟨ret_boolT HP.out.symm, HW.out⟩
  · have d2 : decide (osq ≤ sq) = false := decide_eq_false h2
    have HP := hide_ (show G = false by rw [HG.out]; simp [h2])
    clear h2
    go_enter Tryz.func38, Tryz.ntmps38
    go_wp2
    go_ret
    exact ⟨ret_boolT HP.out.symm, HW.out⟩

theorem againK_at {o : OpM} {l : List DoneM} {k : Nat} {d : DoneM} (h : l[k]? = some d) : againK o (l.map DoneM.p) k = againX o d.p := by
  unfold againK
  rw [List.getElem?_map, h]
  rfl

set_option maxRecDepth 100000 in
set_option maxHeartbeats 6400000 in
theorem again_any (x : RegM) (o : OpM) (B : Nat) (w : World) (hx : RegM.ok w B x) (hB : B ≤ w.heap.size) (h5 : ∀ d ∈ x.dn.l, d.va.l.length ≤ 50) :
    Calls Tryz.prog 19 #[x.v, o.v] w (Agains (againG x.p.dn o) w) := by
  have HD := hide_ (fun (u : World) (hb : Below w.heap.size w u) => dns_stable.more (dns_stable.below hx.2.2.1 (hb.mono hB)) (Nat.le_trans hB hb.size))
  have H5 := hide_ h5
  have m4 := sl_len hx.2.2.1
  clear hx h5
  obtain ⟨ki, inc, st, ⟨vA, vc, vl⟩, ⟨dA, dc, dl⟩, ⟨oA, oc, ol⟩, la, ⟨mA, mc, ml⟩⟩ := x
  obtain ⟨oki, ke, cl, sq, ac, pa, ar, so, oinc, ce⟩ := o
  obtain ⟨nd, hnd⟩ : ∃ n, dl.length = n := ⟨_, rfl⟩
  simp only [RegM.v, OpM.v, Sl.v, RegM.p, hnd] at HD H5 m4 ⊢
  obtain ⟨G, hG⟩ : ∃ G, againG (dl.map DoneM.p) ⟨oki, ke, cl, sq, ac, pa, ar, so, oinc, ce⟩ = G := ⟨_, rfl⟩
  rw [hG]
  have HG := hide_ hG
  have HND := hide_ hnd
  obtain ⟨W0, hW0⟩ : ∃ W0, ((w.alloc (.cells #[.int .u8 ki, .int .u64 inc, .int .i64 st, .slice vA vl.length vc, .slice dA nd dc, .slice oA ol.length oc, .int .u64 la, .slice mA ml.length mc] 31)).alloc (.cells #[.int .u8 oki, .int .u8 ke, .int .u8 cl, .int .u64 sq, .int .i64 ac, .int .i64 pa, .int .i64 ar, .int .u8 so, .int .u64 oinc, .int .u64 ce] 33)).alloc (.cells #[.int .i64 0, .int .u64 0, .int .i64 0, .slice none 0 0] 38) = W0 := ⟨_, rfl⟩
  have HB0 := hide_ (show Below w.heap.size w W0 from hW0 ▸ (((Below.refl _ _).alloc (Nat.le_refl _) _).alloc (by simp) _).alloc (by simp; omega) _)
  have HXR := hide_ (show BoxAt W0 w.heap.size #[.int .u8 ki, .int .u64 inc, .int .i64 st, .slice vA vl.length vc, .slice dA nd dc, .slice oA ol.length oc, .int .u64 la, .slice mA ml.length mc] 31 from hW0 ▸ ((BoxAt.new w _ _).alloc _).alloc _)
  have HXO := hide_ (show BoxAt W0 (w.heap.size + 1) (OpM.box ⟨oki, ke, cl, sq, ac, pa, ar, so, oinc, ce⟩) 33 from by
    have h := (BoxAt.new (w.alloc (.cells #[.int .u8 ki, .int .u64 inc, .int .i64 st, .slice vA vl.length vc, .slice dA nd dc, .slice oA ol.length oc, .int .u64 la, .slice mA ml.length mc] 31)) (OpM.box ⟨oki, ke, cl, sq, ac, pa, ar, so, oinc, ce⟩) 33).alloc (.cells #[.int .i64 0, .int .u64 0, .int .i64 0, .slice none 0 0] 38)
    simp only [OpM.box] at h ⊢
    rw [hW0] at h
    simpa using h)
  have HXZ := hide_ (show BoxAt W0 (w.heap.size + 1 + 1) #[.int .i64 0, .int .u64 0, .int .i64 0, .slice none 0 0] 38 from by
    have h := BoxAt.new ((w.alloc (.cells #[.int .u8 ki, .int .u64 inc, .int .i64 st, .slice vA vl.length vc, .slice dA nd dc, .slice oA ol.length oc, .int .u64 la, .slice mA ml.length mc] 31)).alloc (.cells #[.int .u8 oki, .int .u8 ke, .int .u8 cl, .int .u64 sq, .int .i64 ac, .int .i64 pa, .int .i64 ar, .int .u8 so, .int .u64 oinc, .int .u64 ce] 33)) #[.int .i64 0, .int .u64 0, .int .i64 0, .slice none 0 0] 38
    rw [hW0] at h
    simpa using h)
  have HC := hide_ (indexDone_any (againK ⟨oki, ke, cl, sq, ac, pa, ar, so, oinc, ce⟩ (dl.map DoneM.p)) (fun _ _ => True) 38 #[.pointer (some ⟨w.heap.size + 1, 0, none⟩)] ⟨dA, dc, dl⟩ W0.heap.size W0 (HD.out _ HB0.out) (Nat.le_refl _) trivial (fun _ _ => rfl) (fun k x wr hx hb _ => by
    rw [againK_at hx]
    exact (again1_any x _ (w.heap.size + 1) wr (HXO.out.below hb)).mono fun e w' h => ⟨h.1, fun _ => trivial, h.2.mono hb.size⟩))
  simp only [Sl.v, hnd] at HC
  have HW0 := hide_ hW0
  clear hW0 hG hnd
  simp only [OpM.box] at HXO
  cases hi : idxO (againK ⟨oki, ke, cl, sq, ac, pa, ar, so, oinc, ce⟩ (dl.map DoneM.p)) nd with
  | none =>
    have HP := hide_ (show G = none by
      rw [← HG.out]
      unfold againG
      rw [List.length_map, HND.out, hi])
    have h1 : idxI (againK ⟨oki, ke, cl, sq, ac, pa, ar, so, oinc, ce⟩ (dl.map DoneM.p)) nd = -1 := by unfold idxI; rw [hi]
    rw [h1] at HC
    clear hi h1
    go_enter Tryz.func19, Tryz.ntmps19
    go_wp2_with fail
    rw [HW0.out]
    refine HC.out.mono ?_
    rintro en w1 ⟨rfl, hb1⟩
    have HB1 := hide_ (HB0.out.trans (hb1.mono HB0.out.size))
    have HZ1 := hide_ (HXZ.out.below hb1)
    clear hb1
    have hz1 : w.heap.size + 1 + 1 < w1.heap.size := HZ1.out.lt
    have r0 := (HZ1.out.cell 0).trans (show _ = some (.int .i64 0 : Value) from rfl)
    have g0 := HZ1.out.frozen 0
    have r1 := (HZ1.out.cell 1).trans (show _ = some (.int .u64 0 : Value) from rfl)
    have g1 := HZ1.out.frozen 1
    have r2 := (HZ1.out.cell 2).trans (show _ = some (.int .i64 0 : Value) from rfl)
    have g2 := HZ1.out.frozen 2
    have r3 := (HZ1.out.cell 3).trans (show _ = some (.slice none 0 0 : Value) from rfl)
    have g3 := HZ1.out.frozen 3
    go_wp2
    refine bodyPost_ret (v := .tuple #[.agg #[.int .i64 0, .int .u64 0, .int .i64 0, .slice none 0 0], .bool false]) (by simp [results, Tryz.results19, go_sem, r0, r1, r2, r3]) rfl ?_
    rw [HP.out]
    clear r0 g0 r1 g1 r2 g2 r3 g3
    refine ⟨⟨0, 0, 0, ⟨none, 0, []⟩⟩, rfl, rfl, by unfold I64 U64; simp, ⟨World.ownsRow_nil _ _ _ _, by simp⟩, ?_⟩
    iterate 4 refine Below.setCell ?_ (by simp; try omega) _
    exact HB1.out
  | some k =>
    obtain ⟨hk1, -, -⟩ := idx_some hi
    obtain ⟨x, hx⟩ : ∃ x, dl[k]? = some x := ⟨_, List.getElem?_eq_getElem (by rw [HND.out]; exact hk1)⟩
    have HP := hide_ (show G = some (if sq < x.sq then (15, 0, 0, []) else (x.er, x.inc, x.st, x.va.l)) by
      rw [← HG.out]
      unfold againG
      rw [List.length_map, HND.out, hi]
      simp only [List.getElem?_map, hx]
      rfl)
    have h1 : idxI (againK ⟨oki, ke, cl, sq, ac, pa, ar, so, oinc, ce⟩ (dl.map DoneM.p)) nd = k := by unfold idxI; rw [hi]
    rw [h1] at HC
    have hx50 := H5.out x (List.mem_of_getElem? hx)
    have HHX := hide_ hx
    clear hi h1 hx
    go_enter Tryz.func19, Tryz.ntmps19
    go_wp2_with fail
    rw [HW0.out]
    refine HC.out.mono ?_
    rintro en w1 ⟨rfl, hb1⟩
    have HB1 := hide_ (HB0.out.trans (hb1.mono HB0.out.size))
    have HZ1 := hide_ (HXZ.out.below hb1)
    have HR1 := hide_ (HXR.out.below hb1)
    have HO1 := hide_ (HXO.out.below hb1)
    clear hb1
    have hs1 := HD.out _ HB1.out
    obtain ⟨tb, ot, hAe, hab, e0, e1, e2, e3, e4, e5⟩ := hs1.2.2.1.done HHX.out
    have HVX := hide_ (hs1.2.2.2 x (List.mem_of_getElem? HHX.out)).2
    have HNX := hide_ (hs1.2.2.2 x (List.mem_of_getElem? HHX.out)).1
    have hcr := HR1.out.cell
    have hco := HO1.out.cell
    have zr := HR1.out.lt
    have zo := HO1.out.lt
    have hz1 : w.heap.size + 1 + 1 < w1.heap.size := HZ1.out.lt
    subst hAe
    clear hs1
    obtain ⟨xcl, xsq, er, yi, ys, ⟨yA, yc, yl⟩⟩ := x
    simp only at hx50 HP HVX HNX e0 e1 e2 e3 e4 e5
    by_cases hlt : sq < xsq
    · have HQ := hide_ (show G = some (15, 0, 0, []) by rw [HP.out, if_pos hlt])
      have d1 : decide (sq < xsq) = true := decide_eq_true hlt
      clear hlt
      have r0 := (HZ1.out.cell 0).trans (show _ = some (.int .i64 0 : Value) from rfl)
      have g0 := HZ1.out.frozen 0
      have r1 := (HZ1.out.cell 1).trans (show _ = some (.int .u64 0 : Value) from rfl)
      have g1 := HZ1.out.frozen 1
      have r2 := (HZ1.out.cell 2).trans (show _ = some (.int .i64 0 : Value) from rfl)
      have g2 := HZ1.out.frozen 2
      have r3 := (HZ1.out.cell 3).trans (show _ = some (.slice none 0 0 : Value) from rfl)
      have g3 := HZ1.out.frozen 3
      go_upto_region 4 with fail
      go_quiet (fail)
      go_wp2
      refine bodyPost_ret (v := .tuple #[.agg #[.int .i64 15, .int .u64 0, .int .i64 0, .slice none 0 0], .bool true]) (by simp [results, Tryz.results19, go_sem, r0, r1, r2, r3]) rfl ?_
      rw [HQ.out]
      clear r0 g0 r1 g1 r2 g2 r3 g3
      refine ⟨⟨15, 0, 0, ⟨none, 0, []⟩⟩, rfl, rfl, by unfold I64 U64; simp, ⟨World.ownsRow_nil _ _ _ _, by simp⟩, ?_⟩
      iterate 4 refine Below.setCell ?_ (by simp; try omega) _
      exact below_drawsN HB1.out _
    · have HQ := hide_ (show G = some (er, yi, ys, yl) by rw [HP.out, if_neg hlt])
      have d1 : decide (sq < xsq) = false := decide_eq_false hlt
      clear hlt
      go_upto_region 4 with fail
      go_quiet (fail)
      obtain ⟨wq, hwq⟩ : ∃ u, w1.drewN nq = u := ⟨_, rfl⟩
      have hbq : Below w1.heap.size w1 wq := hwq ▸ below_drawsN (Below.refl _ _) nq
      rw [hwq]
      have HBQ := hide_ (HB1.out.trans (hbq.mono HB1.out.size))
      have HZQ := hide_ (HZ1.out.below hbq)
      have HRQ := hide_ (HR1.out.below hbq)
      have hsq := HD.out _ HBQ.out
      obtain ⟨tb2, ot2, hAe2, hab2, e02, e12, e22, e32, e42, e52⟩ := hsq.2.2.1.done HHX.out
      have HVQ := hide_ (hsq.2.2.2 _ (List.mem_of_getElem? HHX.out)).2
      injection hAe2 with hAe2
      injection hAe2 with hAe3 hAe4
      subst hAe3 hAe4
      clear hcr hco zr zo hz1 e0 e1 e2 e3 e4 e5 hbq hwq hsq hab
      have hcr := HRQ.out.cell
      have zr := HRQ.out.lt
      have hz1 : w.heap.size + 1 + 1 < wq.heap.size := HZQ.out.lt
      have hzb := HZQ.out.cell
      obtain ⟨W2, hW2⟩ : ∃ W2, wq.alloc (.cells #[.int .i64 er, .int .u64 yi, .int .i64 ys, .slice yA yl.length yc] 38) = W2 := ⟨_, rfl⟩
      have HX2 := hide_ (show BoxAt W2 wq.heap.size #[.int .i64 er, .int .u64 yi, .int .i64 ys, .slice yA yl.length yc] 38 from hW2 ▸ BoxAt.new _ _ _)
      have HZ2 := hide_ (show BoxAt W2 (w.heap.size + 1 + 1) _ _ from hW2 ▸ HZQ.out.alloc _)
      have HB2 := hide_ (show Below w.heap.size w W2 from hW2 ▸ HBQ.out.alloc HBQ.out.size _)
      have HV2 := hide_ (show intsOk W2 wq.heap.size ⟨yA, yc, yl⟩ from hW2 ▸ ints_stable.below HVQ.out ((Below.refl _ _).alloc (Nat.le_refl _) _))
      have HS2 := hide_ (show wq.heap.size + 1 = W2.heap.size from hW2 ▸ by simp)
      have HW2 := hide_ hW2
      clear hW2 hzb
      obtain ⟨ny, hny⟩ : ∃ n, yl.length = n := ⟨_, rfl⟩
      have HNY := hide_ hny
      rw [hny] at e52 hx50 HW2 HX2
      have HSV := hide_ (show Sees W2 wq.heap.size yA (iv yl) from HV2.out.sees)
      go_wp2_with fail
      rw [HW2.out]
      clear e02 e12 e22 e32 e42 e52 hcr zr
      refine (clone_any yl yA ny yc wq.heap.size _ hny (by omega) HSV.out (by have := HS2.out; omega)).mono ?_
      rintro en w5 ⟨A5, c5, rfl, ho5, hb5⟩
      have HO5 := hide_ ho5
      have HX5 := hide_ (HX2.out.below hb5)
      have HZ5 := hide_ (HZ2.out.below hb5)
      have HB5 := hide_ (HB2.out.trans (hb5.mono HB2.out.size))
      have hs5 : W2.heap.size ≤ w5.heap.size := hb5.size
      have hs2 := HS2.out
      clear ho5 hb5
      have hcx := HX5.out.cell
      have hfx := HX5.out.frozen
      have hzx := HX5.out.lt
      have r0 := (HZ5.out.cell 0).trans (show _ = some (.int .i64 0 : Value) from rfl)
      have g0 := HZ5.out.frozen 0
      have r1 := (HZ5.out.cell 1).trans (show _ = some (.int .u64 0 : Value) from rfl)
      have g1 := HZ5.out.frozen 1
      have r2 := (HZ5.out.cell 2).trans (show _ = some (.int .i64 0 : Value) from rfl)
      have g2 := HZ5.out.frozen 2
      have r3 := (HZ5.out.cell 3).trans (show _ = some (.slice none 0 0 : Value) from rfl)
      have g3 := HZ5.out.frozen 3
      have hzz : w.heap.size + 1 + 1 < w5.heap.size := HZ5.out.lt
      go_wp2
      refine bodyPost_ret (v := .tuple #[.agg #[.int .i64 er, .int .u64 yi, .int .i64 ys, .slice A5 ny c5], .bool true]) (by simp [results, Tryz.results19, go_sem, r0, r1, r2, r3]) rfl ?_
      rw [HQ.out]
      clear r0 g0 r1 g1 r2 g2 r3 g3
      have hov : OwnVars w5 W2.heap.size ⟨A5, c5, yl⟩ := ⟨by simp only [HNY.out]; exact HO5.out, HVQ.out.2.2.2⟩
      refine ⟨⟨er, yi, ys, ⟨A5, c5, yl⟩⟩, by simp only [RepM.v, Sl.v, HNY.out]; rfl, rfl, ⟨HNX.out.2.2.1, HNX.out.2.2.2.1, HNX.out.2.2.2.2⟩, ?_, ?_⟩
      · refine OwnVars.less (lo := W2.heap.size) ?_ (by omega)
        iterate 5 refine OwnVars.far ?_ (by omega)
        exact hov
      · iterate 5 refine Below.setCell ?_ (by first | omega | (show w.heap.size ≤ w.heap.size + 1 + 1; omega) | (show w.heap.size ≤ wq.heap.size; omega)) _
        exact HB5.out
end Go.Proofs.YtpiikdinphnjbaaGreat
