/-
  Texts of this claim put together: GetReg3, Open6, Law06.
-/
import Derived.Test.YtkgnondlcaklnaaGreatJ43
import Derived.Test.YtkgnondlcaklnaaGreatJ27
import Derived.Test.YtkgnondlcaklnaaGreatJ32
import Derived.Test.YtkgnondlcaklnaaGreatJ39
import Derived.Test.YtkgnondlcaklnaaGreatJ40
/-
  Contract of reg's Get, the call itself.
-/
namespace Go.Proofs.YtkgnondlcaklnaaGreat
open Go.RowKit

set_option maxRecDepth 100000 in
set_option maxHeartbeats 6400000 in
theorem GetReg_any {g : Nat} {s : RS} {w : World} (h : Rdr w g s.1 s.2) (hs : RSok s) : Calls Tryz.prog 92 #[.pointer (some ⟨g, 0, none⟩)] w (PartR RegM.v RegM.p RegM.ok RegM.ft w g (getS s)) := by
  have hgl : g < w.heap.size := h.glt
  have HREG := hide_ (reg6_any (w := ((w.alloc (.cells #[.int .u8 0, .int .u64 0, .int .i64 0, .slice none 0 0, .slice none 0 0, .slice none 0 0, .int .u64 0, .slice none 0 0] 31)).alloc (.cells #[.pointer (some ⟨g, 0, none⟩)] 170))) ((h.made _).made _) hs)
  have HOKS := hide_ (regS_ok hs)
  have HZ0 := hide_ (show BoxAt ((w.alloc (.cells #[.int .u8 0, .int .u64 0, .int .i64 0, .slice none 0 0, .slice none 0 0, .slice none 0 0, .int .u64 0, .slice none 0 0] 31)).alloc (.cells #[.pointer (some ⟨g, 0, none⟩)] 170)) w.heap.size #[.int .u8 0, .int .u64 0, .int .i64 0, .slice none 0 0, .slice none 0 0, .slice none 0 0, .int .u64 0, .slice none 0 0] 31 from (BoxAt.new w _ _).alloc (.cells #[.pointer (some ⟨g, 0, none⟩)] 170))
  have HT0 := hide_ (show BoxAt ((w.alloc (.cells #[.int .u8 0, .int .u64 0, .int .i64 0, .slice none 0 0, .slice none 0 0, .slice none 0 0, .int .u64 0, .slice none 0 0] 31)).alloc (.cells #[.pointer (some ⟨g, 0, none⟩)] 170)) (w.heap.size + 1) #[.pointer (some ⟨g, 0, none⟩)] 170 from by
    have h1 := BoxAt.new (w.alloc (.cells #[.int .u8 0, .int .u64 0, .int .i64 0, .slice none 0 0, .slice none 0 0, .slice none 0 0, .int .u64 0, .slice none 0 0] 31)) #[.pointer (some ⟨g, 0, none⟩)] 170
    simpa using h1)
  obtain ⟨R, hR⟩ : ∃ R, regS s = R := ⟨_, rfl⟩
  obtain ⟨G, hG⟩ : ∃ G, getS s = G := ⟨_, rfl⟩
  rw [hG]
  have HGS := hide_ (show G = if R.2.2 = 0 then (if mayG R.1 then R else (zeroP, ([], 3))) else (zeroP, R.2) by rw [← hG, ← hR]; rfl)
  rw [hR] at HREG HOKS
  clear h hs hR hG
  obtain ⟨rp, rs⟩ := R
  unfold takerV at HREG
  go_enter Tryz.func92, Tryz.ntmps92
  go_wp2_with fail
  refine HREG.out.mono ?_
  rintro en w2 ⟨x, rfl, hp, ho, hl, hr, hg⟩
  have HPX := hide_ hp
  have HLX := hide_ hl
  have HOX := hide_ (reg_local.below ho ((Below.refl _ _).alloc (Nat.le_refl _) (.cells x.box 31)))
  have HR2 := hide_ (hr.made (.cells x.box 31))
  have hz2 : w.heap.size + 2 ≤ w2.heap.size := by have h := hg.size; simpa using h
  have HG2 := hide_ (show w.grownBy (w2.alloc (.cells x.box 31)) (some g) from grown_join (grown_made (grown_made hg)) (World.grownBy_alloc _ _ _))
  have HZ2 := hide_ (show BoxAt (w2.alloc (.cells x.box 31)) w.heap.size #[.int .u8 0, .int .u64 0, .int .i64 0, .slice none 0 0, .slice none 0 0, .slice none 0 0, .int .u64 0, .slice none 0 0] 31 from BoxAt.alloc (box_far hg HZ0.out (by omega)) _)
  have HT2w := hide_ (show BoxAt w2 (w.heap.size + 1) #[.pointer (some ⟨g, 0, none⟩)] 170 from box_far hg HT0.out (by omega))
  have HT2 := hide_ (HT2w.out.alloc (.cells x.box 31))
  have HX2 := hide_ (BoxAt.new w2 x.box 31)
  have HFL := hide_ (failed6_any HR2.out HOKS.out)
  have HMY := hide_ (fun (u : World) (hb : Below (w2.alloc (.cells x.box 31)).heap.size (w2.alloc (.cells x.box 31)) u) => mayReg_any x (w2.alloc (.cells x.box 31)).heap.size u (reg_stable.below HOX.out hb) hb.size)
  rw [show mayG x.p = mayG rp by rw [HPX.out]] at HMY
  have HLO := hide_ (show w.heap.size < ((w.alloc (.cells #[.int .u8 0, .int .u64 0, .int .i64 0, .slice none 0 0, .slice none 0 0, .slice none 0 0, .int .u64 0, .slice none 0 0] 31)).alloc (.cells #[.pointer (some ⟨g, 0, none⟩)] 170)).heap.size by simp; omega)
  clear hp ho hl hr hg HREG HZ0 HT0
  obtain ⟨ki, inc, st, ⟨vA, vc, vl⟩, ⟨dA, dc, dl⟩, ⟨oA, oc, ol⟩, la, ⟨mA, mc, ml⟩⟩ := x
  simp only [RegM.v, RegM.box, Sl.v] at HR2 HG2 HZ2 HT2 HX2 HFL HMY HOX ⊢
  unfold takerV at HFL
  have hct := HT2w.out.cell
  have hw1 : w.heap.size + 1 < w2.heap.size := by omega
  have hw0 : w.heap.size < w2.heap.size := by omega
  go_wp2_with fail
  refine HFL.out.mono ?_
  rintro en w3 ⟨rfl, hb3⟩
  have HR3 := hide_ (HR2.out.below hb3)
  have HG3 := hide_ (grown_below HG2.out hb3)
  have HZ3 := hide_ (HZ2.out.below hb3)
  have HT3 := hide_ (HT2.out.below hb3)
  have HX3 := hide_ (HX2.out.below hb3)
  have HOX3 := hide_ (reg_local.below HOX.out hb3)
  have HB3 := hide_ hb3
  clear hb3 hct
  have hz3 : w2.heap.size < w3.heap.size := HX3.out.lt
  have hw2 : w.heap.size < w3.heap.size := by omega
  have hw3 : w.heap.size + 1 < w3.heap.size := by omega
  by_cases he : rs.2 = 0
  case neg =>
    have hq : G = (zeroP, rs) := by rw [HGS.out, if_neg he]
    have hd : (!(decide (rs.2 = 0))) = true := by simp [he]
    clear HGS
    subst hq
    clear he
    have r0 := (HZ3.out.cell 0).trans (show _ = some (.int .u8 0 : Value) from rfl)
    have g0 := HZ3.out.frozen 0
    have r1 := (HZ3.out.cell 1).trans (show _ = some (.int .u64 0 : Value) from rfl)
    have g1 := HZ3.out.frozen 1
    have r2 := (HZ3.out.cell 2).trans (show _ = some (.int .i64 0 : Value) from rfl)
    have g2 := HZ3.out.frozen 2
    have r3 := (HZ3.out.cell 3).trans (show _ = some (.slice none 0 0 : Value) from rfl)
    have g3 := HZ3.out.frozen 3
    have r4 := (HZ3.out.cell 4).trans (show _ = some (.slice none 0 0 : Value) from rfl)
    have g4 := HZ3.out.frozen 4
    have r5 := (HZ3.out.cell 5).trans (show _ = some (.slice none 0 0 : Value) from rfl)
    have g5 := HZ3.out.frozen 5
    have r6 := (HZ3.out.cell 6).trans (show _ = some (.int .u64 0 : Value) from rfl)
    have g6 := HZ3.out.frozen 6
    have r7 := (HZ3.out.cell 7).trans (show _ = some (.slice none 0 0 : Value) from rfl)
    have g7 := HZ3.out.frozen 7
    rw [hd]
    clear hd
    go_wp2
    refine bodyPost_ret (v := .agg #[.int .u8 0, .int .u64 0, .int .i64 0, .slice none 0 0, .slice none 0 0, .slice none 0 0, .int .u64 0, .slice none 0 0]) (by simp [results, Tryz.results92, go_sem, r0, r1, r2, r3, r4, r5, r6, r7]) rfl ?_
    clear r0 g0 r1 g1 r2 g2 r3 g3 r4 g4 r5 g5 r6 g6 r7 g7
    exact ⟨zeroM, rfl, rfl, zeroM_ok _ _, zeroM_lies _ _, ((((((((HR3.out.stored (by omega)).stored (by omega)).stored (by omega)).stored (by omega)).stored (by omega)).stored (by omega)).stored (by omega)).stored (by omega)), (grown_stored (grown_stored (grown_stored (grown_stored (grown_stored (grown_stored (grown_stored (grown_stored HG3.out (Nat.le_refl _)) (Nat.le_refl _)) (Nat.le_refl _)) (Nat.le_refl _)) (Nat.le_refl _)) (Nat.le_refl _)) (Nat.le_refl _)) (Nat.le_refl _))⟩
  have hd : (!(decide (rs.2 = 0))) = false := by simp [he]
  rw [hd]
  clear hd
  have HE0 := hide_ he
  have hG2 : G = if mayG rp then (rp, rs) else (zeroP, ([], 3)) := by rw [HGS.out, if_pos he]
  clear HGS he
  obtain ⟨q, hq⟩ : ∃ q, mayG rp = q := ⟨_, rfl⟩
  rw [hq] at HMY hG2
  have HGQ := hide_ hG2
  clear hq hG2
  have hcx := HX3.out.cell
  go_wp2_with fail
  refine (HMY.out _ HB3.out).mono ?_
  rintro en w4 ⟨rfl, hb4⟩
  have HR4 := hide_ (HR3.out.below hb4)
  have HG4 := hide_ (grown_below HG3.out hb4)
  have HZ4 := hide_ (HZ3.out.below hb4)
  have HT4 := hide_ (HT3.out.below hb4)
  have HX4 := hide_ (HX3.out.below hb4)
  have HOX4 := hide_ (reg_local.below HOX3.out hb4)
  clear hb4 hcx
  have hz4 : w2.heap.size < w4.heap.size := HX4.out.lt
  have hw4 : w.heap.size < w4.heap.size := by omega
  have hw5 : w.heap.size + 1 < w4.heap.size := by omega
  cases q with
  | true =>
    have hG3 : G = (rp, rs) := HGQ.out
    clear HGQ
    subst hG3
    have hcx := HX4.out.cell
    have r0 := (HZ4.out.cell 0).trans (show _ = some (.int .u8 0 : Value) from rfl)
    have g0 := HZ4.out.frozen 0
    have r1 := (HZ4.out.cell 1).trans (show _ = some (.int .u64 0 : Value) from rfl)
    have g1 := HZ4.out.frozen 1
    have r2 := (HZ4.out.cell 2).trans (show _ = some (.int .i64 0 : Value) from rfl)
    have g2 := HZ4.out.frozen 2
    have r3 := (HZ4.out.cell 3).trans (show _ = some (.slice none 0 0 : Value) from rfl)
    have g3 := HZ4.out.frozen 3
    have r4 := (HZ4.out.cell 4).trans (show _ = some (.slice none 0 0 : Value) from rfl)
    have g4 := HZ4.out.frozen 4
    have r5 := (HZ4.out.cell 5).trans (show _ = some (.slice none 0 0 : Value) from rfl)
    have g5 := HZ4.out.frozen 5
    have r6 := (HZ4.out.cell 6).trans (show _ = some (.int .u64 0 : Value) from rfl)
    have g6 := HZ4.out.frozen 6
    have r7 := (HZ4.out.cell 7).trans (show _ = some (.slice none 0 0 : Value) from rfl)
    have g7 := HZ4.out.frozen 7
    go_wp2
    refine bodyPost_ret (v := .agg #[.int .u8 ki, .int .u64 inc, .int .i64 st, .slice vA vl.length vc, .slice dA dl.length dc, .slice oA ol.length oc, .int .u64 la, .slice mA ml.length mc]) (by simp [results, Tryz.results92, go_sem, r0, r1, r2, r3, r4, r5, r6, r7]) rfl ?_
    clear r0 g0 r1 g1 r2 g2 r3 g3 r4 g4 r5 g5 r6 g6 r7 g7 hcx
    exact ⟨⟨ki, inc, st, ⟨vA, vc, vl⟩, ⟨dA, dc, dl⟩, ⟨oA, oc, ol⟩, la, ⟨mA, mc, ml⟩⟩, rfl, HPX.out, (keep_stored reg_local (keep_stored reg_local (keep_stored reg_local (keep_stored reg_local (keep_stored reg_local (keep_stored reg_local (keep_stored reg_local (keep_stored reg_local HOX4.out HLX.out HLO.out) HLX.out HLO.out) HLX.out HLO.out) HLX.out HLO.out) HLX.out HLO.out) HLX.out HLO.out) HLX.out HLO.out) HLX.out HLO.out), HLX.out.more (by simp; omega) (by have h1 := HG4.out.size; simp [World.setCell]; omega), ((((((((HR4.out.stored (by omega)).stored (by omega)).stored (by omega)).stored (by omega)).stored (by omega)).stored (by omega)).stored (by omega)).stored (by omega)), (grown_stored (grown_stored (grown_stored (grown_stored (grown_stored (grown_stored (grown_stored (grown_stored HG4.out (Nat.le_refl _)) (Nat.le_refl _)) (Nat.le_refl _)) (Nat.le_refl _)) (Nat.le_refl _)) (Nat.le_refl _)) (Nat.le_refl _)) (Nat.le_refl _))⟩
  | false =>
    have hG3 : G = (zeroP, ([], 3)) := HGQ.out
    clear HGQ
    subst hG3
    have hct := HT4.out.cell
    have HF := hide_ (Fail_live 3 (show Rdr w4 g rs.1 0 from HE0.out ▸ HR4.out) (by omega))
    go_wp2_with fail
    refine HF.out.mono ?_
    rintro en w5 ⟨rfl, hr5, hg5⟩
    have HR5 := hide_ hr5
    have HG5 := hide_ (grown_join HG4.out hg5)
    have HZ5 := hide_ (show BoxAt w5 w.heap.size #[.int .u8 0, .int .u64 0, .int .i64 0, .slice none 0 0, .slice none 0 0, .slice none 0 0, .int .u64 0, .slice none 0 0] 31 from box_far hg5 HZ4.out (by omega))
    have hw6 : w.heap.size < w5.heap.size := HZ5.out.lt
    clear hr5 hg5 hct
    have r0 := (HZ5.out.cell 0).trans (show _ = some (.int .u8 0 : Value) from rfl)
    have g0 := HZ5.out.frozen 0
    have r1 := (HZ5.out.cell 1).trans (show _ = some (.int .u64 0 : Value) from rfl)
    have g1 := HZ5.out.frozen 1
    have r2 := (HZ5.out.cell 2).trans (show _ = some (.int .i64 0 : Value) from rfl)
    have g2 := HZ5.out.frozen 2
    have r3 := (HZ5.out.cell 3).trans (show _ = some (.slice none 0 0 : Value) from rfl)
    have g3 := HZ5.out.frozen 3
    have r4 := (HZ5.out.cell 4).trans (show _ = some (.slice none 0 0 : Value) from rfl)
    have g4 := HZ5.out.frozen 4
    have r5 := (HZ5.out.cell 5).trans (show _ = some (.slice none 0 0 : Value) from rfl)
    have g5 := HZ5.out.frozen 5
    have r6 := (HZ5.out.cell 6).trans (show _ = some (.int .u64 0 : Value) from rfl)
    have g6 := HZ5.out.frozen 6
    have r7 := (HZ5.out.cell 7).trans (show _ = some (.slice none 0 0 : Value) from rfl)
    have g7 := HZ5.out.frozen 7
    go_wp2
    refine bodyPost_ret (v := .agg #[.int .u8 0, .int .u64 0, .int .i64 0, .slice none 0 0, .slice none 0 0, .slice none 0 0, .int .u64 0, .slice none 0 0]) (by simp [results, Tryz.results92, go_sem, r0, r1, r2, r3, r4, r5, r6, r7]) rfl ?_
    clear r0 g0 r1 g1 r2 g2 r3 g3 r4 g4 r5 g5 r6 g6 r7 g7
    exact ⟨zeroM, rfl, rfl, zeroM_ok _ _, zeroM_lies _ _, ((((((((HR5.out.stored (by omega)).stored (by omega)).stored (by omega)).stored (by omega)).stored (by omega)).stored (by omega)).stored (by omega)).stored (by omega)), (grown_stored (grown_stored (grown_stored (grown_stored (grown_stored (grown_stored (grown_stored (grown_stored HG5.out (Nat.le_refl _)) (Nat.le_refl _)) (Nat.le_refl _)) (Nat.le_refl _)) (Nat.le_refl _)) (Nat.le_refl _)) (Nat.le_refl _)) (Nat.le_refl _))⟩
end Go.Proofs.YtkgnondlcaklnaaGreat

/-
  How registers, replies come in.
-/
namespace Go.Proofs.YtkgnondlcaklnaaGreat
open Go.ChangeShapes Go.WideShapes Go.ChangeAt Go.RowKit Go.Joins Go.Deep

section
variable {H : Type} {enc : TypeId × Value → H} {P : Program} {w : World} {base : Nat} {spare : Nat → Bool} {held : Bool}
theorem field_many {e : TypeId} {fs : Array Field} {xs : List Value} {n : Nat} {y : DataW H × List MemPlace} (he : P.underlying e = some (.struct fs)) (h : DataW.trod enc P w base spare held n e xs = some y)
    (j : Nat) {f : Field} (hj : fs[j]? = some f) {o q : Nat} {ty : TypeId} {cs : List Value} (ht : f.type = ty) (ho : f.offset = o) (hc : P.cellsOf ty = q) (hx : (xs.drop o).take q = cs) :
    ∃ k z, DataW.trod enc P w base spare held k ty cs = some z := by
  obtain ⟨ys, k, _, _, _, hlen, hf⟩ := DataW.trod_struct he h
  have h1 := hf j f hj
  rw [ht, ho, hc, hx] at h1
  have hjl : j < ys.length := by rw [hlen]; exact (Array.getElem?_eq_some_iff.1 hj).1
  exact ⟨k, ys[j], h1.trans (List.getElem?_eq_getElem hjl)⟩
end

section
variable {H : Type} {enc : TypeId × Value → H} {w : World} {base : Nat} {spare : Nat → Bool} {held : Bool}

def RepM.cs (r : RepM) : List Value := [.int .i64 r.er, .int .u64 r.inc, .int .i64 r.st, r.va.v]

set_option maxRecDepth 100000 in
theorem el_rep {n : Nat} {xs : List Value} {y : DataW H × List MemPlace} (hl : xs.length = 4) (h : DataW.trod enc Tryz.prog w base spare held n 38 xs = some y) : ∃ t, xs = RepM.cs t ∧ RepM.ok w w.heap.size t := by
  match xs, hl with
  | [c0, c1, c2, c3], _ =>
    obtain ⟨_, _, h0⟩ := field_at Tryz.underlying38 h 0 rfl rfl rfl (by kernel_rfl) rfl
    obtain ⟨_, _, h1⟩ := field_at Tryz.underlying38 h 1 rfl rfl rfl (by kernel_rfl) rfl
    obtain ⟨_, _, h2⟩ := field_at Tryz.underlying38 h 2 rfl rfl rfl (by kernel_rfl) rfl
    obtain ⟨_, _, h3⟩ := field_at Tryz.underlying38 h 3 rfl rfl rfl (by kernel_rfl) rfl
    obtain ⟨a, rfl, ha⟩ := open_i64c Tryz.underlying36 h0
    obtain ⟨b, rfl, hb⟩ := open_u64c Tryz.underlying25 h1
    obtain ⟨c, rfl, hc⟩ := open_i64c Tryz.underlying3 h2
    obtain ⟨d, rfl, hd⟩ := open_intc h3
    exact ⟨⟨a, b, c, d⟩, rfl, ⟨ha, hb, hc⟩, hd⟩

set_option maxRecDepth 100000 in
theorem el_done {n : Nat} {xs : List Value} {y : DataW H × List MemPlace} (hl : xs.length = 6) (h : DataW.trod enc Tryz.prog w base spare held n 72 xs = some y) : ∃ t, xs = DoneM.cs t ∧ DoneM.ok w w.heap.size t := by
  match xs, hl with
  | [c0, c1, c2, c3, c4, c5], _ =>
    obtain ⟨_, _, h0⟩ := field_at Tryz.underlying72 h 0 rfl rfl rfl (by kernel_rfl) rfl
    obtain ⟨_, _, h1⟩ := field_at Tryz.underlying72 h 1 rfl rfl rfl (by kernel_rfl) rfl
    obtain ⟨_, _, h2⟩ := field_many (cs := [c2, c3, c4, c5]) (q := 4) Tryz.underlying72 h 2 rfl rfl rfl (by kernel_rfl) rfl
    obtain ⟨a, rfl, ha⟩ := open_u8c Tryz.underlying5 h0
    obtain ⟨b, rfl, hb⟩ := open_u64c Tryz.underlying25 h1
    obtain ⟨c, hc, hco⟩ := el_rep rfl h2
    obtain ⟨er, inc, st, va⟩ := c
    simp only [RepM.cs, List.cons.injEq, and_true] at hc
    obtain ⟨rfl, rfl, rfl, rfl⟩ := hc
    exact ⟨⟨a, b, er, inc, st, va⟩, rfl, ⟨ha, hb, hco.1⟩, hco.2⟩

theorem open_donec {n : Nat} {v : Value} {y : DataW H × List MemPlace} (h : DataW.trod enc Tryz.prog w base spare held n 27 [v] = some y) : ∃ s : Sl DoneM, v = s.v ∧ dnsOk w w.heap.size s := by
  obtain ⟨s, hv, h1, h2, h3, h4⟩ := open_sl DoneM.cs (DoneM.ok w w.heap.size) (q := 6) (by omega) Tryz.underlying27 (by kernel_rfl) (fun _ => rfl) (fun _ _ _ hl h => el_done hl h) h
  exact ⟨s, hv, h1, h2, h3, h4⟩

set_option maxRecDepth 100000 in
theorem el_reg {n : Nat} {xs : List Value} {y : DataW H × List MemPlace} (hl : xs.length = 8) (h : DataW.trod enc Tryz.prog w base spare held n 31 xs = some y) : ∃ t, xs = RegM.cs t ∧ RegM.ok w w.heap.size t := by
  match xs, hl with
  | [c0, c1, c2, c3, c4, c5, c6, c7], _ =>
    obtain ⟨_, _, h0⟩ := field_at Tryz.underlying31 h 0 rfl rfl rfl (by kernel_rfl) rfl
    obtain ⟨_, _, h1⟩ := field_at Tryz.underlying31 h 1 rfl rfl rfl (by kernel_rfl) rfl
    obtain ⟨_, _, h2⟩ := field_at Tryz.underlying31 h 2 rfl rfl rfl (by kernel_rfl) rfl
    obtain ⟨_, _, h3⟩ := field_at Tryz.underlying31 h 3 rfl rfl rfl (by kernel_rfl) rfl
    obtain ⟨_, _, h4⟩ := field_at Tryz.underlying31 h 4 rfl rfl rfl (by kernel_rfl) rfl
    obtain ⟨_, _, h5⟩ := field_at Tryz.underlying31 h 5 rfl rfl rfl (by kernel_rfl) rfl
    obtain ⟨_, _, h6⟩ := field_at Tryz.underlying31 h 6 rfl rfl rfl (by kernel_rfl) rfl
    obtain ⟨_, _, h7⟩ := field_at Tryz.underlying31 h 7 rfl rfl rfl (by kernel_rfl) rfl
    obtain ⟨a, rfl, ha⟩ := open_u8c Tryz.underlying5 h0
    obtain ⟨b, rfl, hb⟩ := open_u64c Tryz.underlying25 h1
    obtain ⟨c, rfl, hc⟩ := open_i64c Tryz.underlying3 h2
    obtain ⟨d, rfl, hd⟩ := open_intc h3
    obtain ⟨e, rfl, he⟩ := open_donec h4
    obtain ⟨f, rfl, hf⟩ := open_celc h5
    obtain ⟨g, rfl, hg⟩ := open_u64c Tryz.underlying25 h6
    obtain ⟨i, rfl, hi⟩ := open_mrkc h7
    exact ⟨⟨a, b, c, d, e, f, g, i⟩, rfl, ⟨ha, hb, hc, hg⟩, hd, he, hf, hi⟩

set_option maxRecDepth 100000 in
/-- a register that comes in -/
theorem open_reg {r : Reach} {b0 : Nat} {v : Value} {d : DataW H} {p : List MemPlace} (hv : Value.okWide Tryz.prog w r b0 31 v) (h : DataW.Trod enc Tryz.prog w base spare held 31 v d p) :
    ∃ s : RegM, v = s.v ∧ RegM.ok w w.heap.size s := by
  obtain ⟨cs, rfl, hsz⟩ := okWide_struct Tryz.underlying31 hv
  obtain ⟨fuel, hf⟩ := h
  obtain ⟨l⟩ := cs
  have h8 : Tryz.prog.cellsOf 31 = 8 := by kernel_rfl
  have hl : l.length = 8 := hsz.trans h8
  obtain ⟨s, e, hs⟩ := el_reg (by simpa [Value.cells] using hl) hf
  refine ⟨s, ?_, hs⟩
  have e2 : l = RegM.cs s := by simpa [Value.cells] using e
  rw [e2]
  rfl

set_option maxRecDepth 100000 in
/-- a reply that comes in -/
theorem open_rep {r : Reach} {b0 : Nat} {v : Value} {d : DataW H} {p : List MemPlace} (hv : Value.okWide Tryz.prog w r b0 38 v) (h : DataW.Trod enc Tryz.prog w base spare held 38 v d p) :
    ∃ s : RepM, v = s.v ∧ RepM.ok w w.heap.size s := by
  obtain ⟨cs, rfl, hsz⟩ := okWide_struct Tryz.underlying38 hv
  obtain ⟨fuel, hf⟩ := h
  obtain ⟨l⟩ := cs
  have h8 : Tryz.prog.cellsOf 38 = 4 := by kernel_rfl
  have hl : l.length = 4 := hsz.trans h8
  obtain ⟨s, e, hs⟩ := el_rep (by simpa [Value.cells] using hl) hf
  refine ⟨s, ?_, hs⟩
  have e2 : l = RepM.cs s := by simpa [Value.cells] using e
  rw [e2]
  rfl
end
end Go.Proofs.YtkgnondlcaklnaaGreat

/-
  What the laws of layer 6 have in common: the reference's May; how many bytes a register has; what was put is got back.
-/
namespace Go.Proofs.YtkgnondlcaklnaaGreat
open Go.RowKit

theorem reg_signs {w : World} {B : Nat} {r : RegM} (h : RegM.ok w B r) : (∀ m ∈ r.p.ma, 0 ≤ m.1) ∧ 0 ≤ r.p.ki := ⟨fun m hm => (h.2.2.2.2.2.2.2 m hm).1.1, h.1.1.1⟩
theorem refMay6_any (r : RegM) (B : Nat) (w : World) (hr : RegM.ok w B r) (hB : B ≤ w.heap.size) : Calls Tryz.prog 13 #[r.v] w fun e w' => e = .returned (.bool (mayG r.p)) ∧ Below w.heap.size w w' := by
  rw [← refMay_eq (reg_signs hr).1 (reg_signs hr).2]
  exact refMayR_any r B w hr hB fun u hu hBu => refLists_any r B u hu hBu

theorem regB_len {w : World} {B : Nat} {r : RegM} (hr : RegM.ok w B r) (hm : mayG r.p = true) : 0 < (regB r.p).length ∧ (regB r.p).length ≤ 10000 := by
  have hk := hr.1.1
  unfold U8 at hk
  have h0 : 0 < (natB r.p.ki).length := by
    unfold natB
    exact numB_pos _
  have h1 := natB_len r.p.ki (by show r.ki ≤ _; omega)
  unfold regB
  rw [List.length_append]
  by_cases hk0 : r.p.ki = 0
  · rw [if_pos hk0]
    simp
    omega
  · rw [if_neg hk0]
    obtain ⟨hinc, ⟨hst, hva⟩, ⟨hdl, hdc⟩, ⟨hol, hoc⟩, hml⟩ := stn_parts (may_stn hm hk0).1
    obtain ⟨⟨_, hu2, _, hu4⟩, hov, hod, hoo, hom⟩ := hr
    have e1 := natU_len r.p.inc hu2
    have e2 := natB_len r.p.st (by omega)
    have e3 := varB_len r.p.va hov.2.2.2 (by omega)
    have e4 := natB_len r.p.dn.length (by omega)
    have e5 : (r.p.dn.flatMap donB).length ≤ 600 * r.p.dn.length := flat_le (f := donB) r.p.dn fun z hz => by
      obtain ⟨d, hd, rfl⟩ := List.mem_map.1 hz
      exact don_len (hod.2.2.2 d hd) (hdc _ hz).2
    have e6 := natB_len r.p.ou.length (by omega)
    have e7 := flat_le (f := celB) r.p.ou fun z hz => cel_len (hoo.2.2.2 z hz) (hoc z hz)
    have e8 := natU_len r.p.la hu4
    have e9 := natB_len r.p.ma.length (by omega)
    have e10 := flat_le (f := mrkB) r.p.ma fun z hz => mrk_len (hom.2.2.2 z hz)
    simp only [List.length_append]
    omega

theorem getS_cut {w : World} {B : Nat} {r : RegM} (hr : RegM.ok w B r) (hm : mayG r.p = true) {k : Nat} (hk : k < (regB r.p).length) : getS ((regB r.p).take k, 0) = (zeroP, ([], 2)) := by
  have h := regS_cuts (regOk_of hr hm) k hk
  unfold getS
  rw [h]
  rfl
theorem getS_put {w : World} {B : Nat} {r : RegM} (hr : RegM.ok w B r) (hm : mayG r.p = true) : getS (regB r.p, 0) = (r.p, ([], 0)) := by
  have hk := hr.1.1
  unfold U8 at hk
  by_cases h0 : r.p.ki = 0
  · have hz : r.p = zeroP := by
      unfold mayG at hm
      rw [if_pos h0] at hm
      exact of_decide_eq_true hm
    have e : regS (regB r.p, 0) = (zeroP, ([], 0)) := by
      have hx : regB r.p = natB r.p.ki ++ [] := by unfold regB; rw [if_pos h0]
      have h1 := natS_put (n := r.p.ki) (most := 255) [] hk.1 (by show r.ki ≤ _; omega) (by omega)
      rw [hx]
      unfold regS
      rw [h1]
      simp only
      rw [if_pos (by rw [h0]; rfl)]
    unfold getS
    rw [e]
    rw [hz]
    decide
  · have h1 := regS_put (regOk_of hr hm) h0 []
    rw [List.append_nil] at h1
    unfold getS
    rw [h1]
    simp [hm]
end Go.Proofs.YtkgnondlcaklnaaGreat
