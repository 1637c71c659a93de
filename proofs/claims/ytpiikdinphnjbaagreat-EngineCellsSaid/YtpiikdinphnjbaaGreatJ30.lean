/-
  Texts of this claim put together: SameG, Tk5b, Tk5c, Open6, Set7.
-/
import Derived.Test.YtpiikdinphnjbaaGreatJ27
import Derived.Test.YtpiikdinphnjbaaGreatJ28
import Derived.Test.YtpiikdinphnjbaaGreatJ29
import Derived.Test.YtpiikdinphnjbaaGreatJ26
import Derived.Deep.RegionHeldLaw
import Derived.IntWalk
import Derived.Deep.DeepCutAuto
import Derived.Test.YtpiikdinphnjbaaGreatJ22
import Derived.BigQuiet
/-
  Contracts of reg's Same and May.
-/
namespace Go.Proofs.YtpiikdinphnjbaaGreat
open Go.RowKit

theorem regP_eq (a b : RegP) : decide (a = b) = (decide (a.ki = b.ki) && (decide (a.inc = b.inc) && (decide (a.st = b.st) && (decide (a.va = b.va) && (decide (a.dn = b.dn) && (decide (a.ou = b.ou) && (decide (a.la = b.la) && decide (a.ma = b.ma)))))))) := by
  obtain ⟨_, _, _, _, _, _, _, _⟩ := a
  obtain ⟨_, _, _, _, _, _, _, _⟩ := b
  rw [Bool.eq_iff_iff]
  simp only [RegP.mk.injEq, Bool.and_eq_true, decide_eq_true_eq]

set_option maxRecDepth 100000 in
set_option maxHeartbeats 6400000 in
theorem sameReg_any (x y : RegM) (B : Nat) (w : World) (hx : RegM.ok w B x) (hy : RegM.ok w B y) (hB : B ≤ w.heap.size) : Calls Tryz.prog 55 #[x.v, y.v] w fun e w' => e = .returned (.bool (decide (x.p = y.p))) ∧ Below w.heap.size w w' := by
  have HW := hide_ (show Below w.heap.size w ((w.alloc (.cells x.box 31)).alloc (.cells y.box 31)) from ((Below.refl _ _).alloc (Nat.le_refl _) _).alloc (by simp) _)
  have HX := hide_ ((BoxAt.new w x.box 31).alloc (.cells y.box 31))
  have HY := hide_ (show BoxAt ((w.alloc (.cells x.box 31)).alloc (.cells y.box 31)) (w.heap.size + 1) y.box 31 by
    have := BoxAt.new (w.alloc (.cells x.box 31)) y.box 31
    simpa using this)
  have HCI := hide_ (fun (u : World) (hb : Below w.heap.size w u) => equalInt_any x.va.l y.va.l x.va.A y.va.A x.va.l.length y.va.l.length x.va.c y.va.c B u rfl rfl (sl_len hx.2.1) (sl_len hy.2.1) (hx.2.1.2.2.1.below (hb.mono hB)) (hy.2.1.2.2.1.below (hb.mono hB)) (Nat.le_trans hB hb.size))
  have HCD := hide_ (fun (u : World) (hb : Below w.heap.size w u) => equalDone_any x.dn y.dn B u (dns_stable.below hx.2.2.1 (hb.mono hB)) (dns_stable.below hy.2.2.1 (hb.mono hB)) (Nat.le_trans hB hb.size))
  have HCC := hide_ (fun (u : World) (hb : Below w.heap.size w u) => equalCell_any x.ou.l y.ou.l x.ou.A y.ou.A x.ou.l.length y.ou.l.length x.ou.c y.ou.c B u rfl rfl (sl_len hx.2.2.2.1) (sl_len hy.2.2.2.1) (hx.2.2.2.1.2.2.1.below (hb.mono hB)) (hy.2.2.2.1.2.2.1.below (hb.mono hB)) (Nat.le_trans hB hb.size))
  have HCM := hide_ (fun (u : World) (hb : Below w.heap.size w u) => equalMark_any x.ma.l y.ma.l x.ma.A y.ma.A x.ma.l.length y.ma.l.length x.ma.c y.ma.c B u rfl rfl (sl_len hx.2.2.2.2) (sl_len hy.2.2.2.2) (hx.2.2.2.2.2.2.1.below (hb.mono hB)) (hy.2.2.2.2.2.2.1.below (hb.mono hB)) (Nat.le_trans hB hb.size))
  have HP := hide_ (regP_eq x.p y.p)
  rw [HP.out]
  unfold RegM.p
  simp only
  obtain ⟨q4, h4⟩ : ∃ q, decide (x.va.l = y.va.l) = q := ⟨_, rfl⟩
  obtain ⟨q5, h5⟩ : ∃ q, decide (x.dn.l.map DoneM.p = y.dn.l.map DoneM.p) = q := ⟨_, rfl⟩
  obtain ⟨q6, h6⟩ : ∃ q, decide (x.ou.l = y.ou.l) = q := ⟨_, rfl⟩
  obtain ⟨q8, h8⟩ : ∃ q, decide (x.ma.l = y.ma.l) = q := ⟨_, rfl⟩
  simp only [h4] at HCI ⊢
  simp only [h5] at HCD ⊢
  simp only [h6] at HCC ⊢
  simp only [h8] at HCM ⊢
  clear HP h4 h5 h6 h8 hx hy
  obtain ⟨ki, inc, st, ⟨vA, vc, vl⟩, ⟨dA, dc, dl⟩, ⟨oA, oc, ol⟩, la, ⟨mA, mc, ml⟩⟩ := x
  obtain ⟨ki2, inc2, st2, ⟨vA2, vc2, vl2⟩, ⟨dA2, dc2, dl2⟩, ⟨oA2, oc2, ol2⟩, la2, ⟨mA2, mc2, ml2⟩⟩ := y
  simp only [RegM.v, RegM.box, Sl.v] at HCI HCD HCC HCM HW HX HY ⊢
  by_cases c0 : ki = ki2
  case neg =>
    have hd : (ki == ki2) = false := beq_eq_false_iff_ne.2 c0
    have hf := decide_eq_false c0
    have HE := hide_ hf
    clear c0 hf
    go_enter Tryz.func55, Tryz.ntmps55
    go_wp2
    go_ret
    exact ⟨by rw [HE.out]; simp, HW.out⟩
  subst c0
  by_cases c1 : inc = inc2
  case neg =>
    have hd : (inc == inc2) = false := beq_eq_false_iff_ne.2 c1
    have hf := decide_eq_false c1
    have HE := hide_ hf
    clear c1 hf
    go_enter Tryz.func55, Tryz.ntmps55
    go_wp2
    go_ret
    exact ⟨by rw [HE.out]; simp, HW.out⟩
  subst c1
  by_cases c2 : st = st2
  case neg =>
    have hd : (st == st2) = false := beq_eq_false_iff_ne.2 c2
    have hf := decide_eq_false c2
    have HE := hide_ hf
    clear c2 hf
    go_enter Tryz.func55, Tryz.ntmps55
    go_wp2
    go_ret
    exact ⟨by rw [HE.out]; simp, HW.out⟩
  subst c2
  simp only [decide_true, Bool.true_and]
  go_enter Tryz.func55, Tryz.ntmps55
  go_wp2_with fail
  refine (HCI.out _ HW.out).mono ?_
  rintro en w1 ⟨rfl, hb1⟩
  have HB1 := hide_ (HW.out.trans (hb1.mono HW.out.size))
  have HX1 := hide_ (HX.out.below hb1)
  have HY1 := hide_ (HY.out.below hb1)
  clear hb1
  have hz1 : w.heap.size < w1.heap.size := HX1.out.lt
  have hy1 : w.heap.size + 1 < w1.heap.size := HY1.out.lt
  have hcx := HX1.out.cell
  have hcy := HY1.out.cell
  cases q4 with
  | false =>
    go_wp2
    go_ret
    exact ⟨by simp, HB1.out⟩
  | true =>
  go_wp2_with fail
  refine (HCD.out _ HB1.out).mono ?_
  rintro en w2 ⟨rfl, hb2⟩
  have HB2 := hide_ (HB1.out.trans (hb2.mono HB1.out.size))
  have HX2 := hide_ (HX1.out.below hb2)
  have HY2 := hide_ (HY1.out.below hb2)
  clear hb2 hcx hcy
  have hz2 : w.heap.size < w2.heap.size := HX2.out.lt
  have hy2 : w.heap.size + 1 < w2.heap.size := HY2.out.lt
  have hcx := HX2.out.cell
  have hcy := HY2.out.cell
  cases q5 with
  | false =>
    go_wp2
    go_ret
    exact ⟨by simp, HB2.out⟩
  | true =>
  go_wp2_with fail
  refine (HCC.out _ HB2.out).mono ?_
  rintro en w3 ⟨rfl, hb3⟩
  have HB3 := hide_ (HB2.out.trans (hb3.mono HB2.out.size))
  have HX3 := hide_ (HX2.out.below hb3)
  have HY3 := hide_ (HY2.out.below hb3)
  clear hb3 hcx hcy
  have hz3 : w.heap.size < w3.heap.size := HX3.out.lt
  have hy3 : w.heap.size + 1 < w3.heap.size := HY3.out.lt
  have hcx := HX3.out.cell
  have hcy := HY3.out.cell
  cases q6 with
  | false =>
    go_wp2
    go_ret
    exact ⟨by simp, HB3.out⟩
  | true =>
  by_cases c6 : la = la2
  case neg =>
    have hd : (la == la2) = false := beq_eq_false_iff_ne.2 c6
    have hf := decide_eq_false c6
    have HE := hide_ hf
    clear c6 hf
    go_wp2
    go_ret
    exact ⟨by rw [HE.out]; simp, HB3.out⟩
  subst c6
  go_wp2_with fail
  refine (HCM.out _ HB3.out).mono ?_
  rintro en w4 ⟨rfl, hb4⟩
  have HB4 := hide_ (HB3.out.trans (hb4.mono HB3.out.size))
  clear hb4 hcx hcy
  go_wp2
  go_ret
  exact ⟨by simp, HB4.out⟩

set_option maxRecDepth 100000 in
set_option maxHeartbeats 3200000 in
theorem mayReg_any (x : RegM) (B : Nat) (w : World) (hx : RegM.ok w B x) (hB : B ≤ w.heap.size) : Calls Tryz.prog 31 #[x.v] w fun e w' => e = .returned (.bool (mayG x.p)) ∧ Below w.heap.size w w' := by
  have HW := hide_ (show Below w.heap.size w (w.alloc (.cells x.box 31)) from (Below.refl _ _).alloc (Nat.le_refl _) _)
  have HX := hide_ (BoxAt.new w x.box 31)
  have HS := hide_ (fun (u : World) (hb : Below w.heap.size w u) => sameReg_any x zeroM B u (reg_stable.below hx (hb.mono hB)) (zeroM_ok u B) (Nat.le_trans hB hb.size))
  have HM := hide_ (fun (u : World) (hb : Below w.heap.size w u) => mayStand_any6 x u.heap.size u (reg_stable.more (reg_stable.below hx (hb.mono hB)) (Nat.le_trans hB hb.size)) (Nat.le_refl _))
  have hm1 := sl_len hx.2.1
  have hm2 := sl_len hx.2.2.2.1
  have hk0 := hx.1.1
  have HZ := hide_ (show mayG x.p = if x.ki = 0 then decide (x.p = zeroP) else if x.ki = 1 then stnB x.p else if x.ki = 2 then stnB x.p && (decide (x.st = 0) && (decide (x.va.l.length = 0) && decide (x.ou.l.length = 0))) else false from rfl)
  rw [HZ.out]
  obtain ⟨q1, h1⟩ : ∃ q, decide (x.p = zeroP) = q := ⟨_, rfl⟩
  obtain ⟨q2, h2⟩ : ∃ q, stnB x.p = q := ⟨_, rfl⟩
  simp only [show zeroM.p = zeroP from rfl, h1] at HS
  simp only [h2] at HM
  simp only [h1, h2]
  clear HZ h1 h2 hx
  obtain ⟨ki, inc, st, ⟨vA, vc, vl⟩, ⟨dA, dc, dl⟩, ⟨oA, oc, ol⟩, la, ⟨mA, mc, ml⟩⟩ := x
  simp only [RegM.v, RegM.box, Sl.v, zeroM, List.length_nil] at HS HM HW HX hm1 hm2 hk0 ⊢
  obtain ⟨nv, hnv⟩ : ∃ n, vl.length = n := ⟨_, rfl⟩
  obtain ⟨no, hno⟩ : ∃ n, ol.length = n := ⟨_, rfl⟩
  simp only [hnv, hno] at HS HM HW HX hm1 hm2 ⊢
  clear hnv hno
  by_cases k0 : ki = 0
  · subst k0
    simp only [if_true]
    go_enter Tryz.func31, Tryz.ntmps31
    go_wp2_with fail
    refine (HS.out _ HW.out).mono ?_
    rintro en w1 ⟨rfl, hb1⟩
    have HB1 := hide_ (HW.out.trans (hb1.mono (by simp)))
    clear hb1
    go_wp2
    go_ret
    exact ⟨rfl, HB1.out⟩
  have hd0 : (ki == 0) = false := beq_eq_false_iff_ne.2 k0
  rw [if_neg k0]
  by_cases k1 : ki = 1
  · subst k1
    simp only [if_true]
    clear hd0 k0
    go_enter Tryz.func31, Tryz.ntmps31
    go_wp2_with fail
    refine (HM.out _ HW.out).mono ?_
    rintro en w1 ⟨rfl, hb1⟩
    have HB1 := hide_ (HW.out.trans (hb1.mono (by simp)))
    clear hb1
    go_wp2
    go_ret
    exact ⟨rfl, HB1.out⟩
  have hd1 : (ki == 1) = false := beq_eq_false_iff_ne.2 k1
  rw [if_neg k1]
  by_cases k2 : ki = 2
  · subst k2
    simp only [if_true]
    clear hd0 k0 hd1 k1
    go_enter Tryz.func31, Tryz.ntmps31
    go_wp2_with fail
    refine (HM.out _ HW.out).mono ?_
    rintro en w1 ⟨rfl, hb1⟩
    have HB1 := hide_ (HW.out.trans (hb1.mono (by simp)))
    have HX1 := hide_ (HX.out.below hb1)
    clear hb1
    have hz1 : w.heap.size < w1.heap.size := HX1.out.lt
    have hcx := HX1.out.cell
    cases q2 with
    | false =>
      go_wp2
      go_ret
      exact ⟨rfl, HB1.out⟩
    | true =>
    by_cases c1 : st = 0
    case neg =>
      have hd : (st == 0) = false := beq_eq_false_iff_ne.2 c1
      have HE := hide_ (decide_eq_false c1)
      clear c1
      go_wp2
      go_ret
      exact ⟨by rw [HE.out]; simp, HB1.out⟩
    subst c1
    by_cases c2 : nv = 0
    case neg =>
      have hd : ((nv : Int) == 0) = false := beq_eq_false_iff_ne.2 (by omega)
      have HE := hide_ (decide_eq_false c2)
      clear c2
      go_wp2
      go_ret
      exact ⟨by rw [HE.out]; simp, HB1.out⟩
    subst c2
    by_cases c3 : no = 0
    case neg =>
      have hd : ((no : Int) == 0) = false := beq_eq_false_iff_ne.2 (by omega)
      have HE := hide_ (decide_eq_false c3)
      clear c3
      go_wp2
      go_ret
      exact ⟨by rw [HE.out]; simp, HB1.out⟩
    subst c3
    go_wp2
    go_ret
    exact ⟨by simp, HB1.out⟩
  have hd2 : (ki == 2) = false := beq_eq_false_iff_ne.2 k2
  rw [if_neg k2]
  clear k0 k1 k2
  go_enter Tryz.func31, Tryz.ntmps31
  go_wp2
  go_ret
  exact ⟨rfl, HW.out⟩
end Go.Proofs.YtpiikdinphnjbaaGreat

/-
  Contracts of table's taker: formulas, sets, emits.
-/
namespace Go.Proofs.YtpiikdinphnjbaaGreat
open Go.RowKit

end Go.Proofs.YtpiikdinphnjbaaGreat

/-
  Contracts of table's taker: rules, contracts; Get.
-/
namespace Go.Proofs.YtpiikdinphnjbaaGreat
open Go.RowKit

theorem BoxAt.frozen {w : World} {g : Nat} {cs : Array Value} {t : TypeId} (h : BoxAt w g cs t) (i : Nat) : w.frozen? ⟨g, i, none⟩ = false := by
  unfold BoxAt at h
  simp [World.frozen?, h]

end Go.Proofs.YtpiikdinphnjbaaGreat

/-
  How registers, replies come in.
-/
namespace Go.Proofs.YtpiikdinphnjbaaGreat
open Go.ChangeShapes Go.WideShapes Go.ChangeAt Go.RowKit Go.Joins Go.Deep

section
variable {H : Type} {enc : TypeId × Value → H} {P : Program} {w : World} {base : Nat} {spare : Nat → Bool} {held : Bool}
theorem field_many {e : TypeId} {fs : Array Field} {xs : List Value} {n : Nat} {y : DataW H × List MemPlace} (he : P.underlying e = some (.struct fs)) (h : DataW.trod enc P w base spare held n e xs = some y)
    (j : Nat) {f : Field} (hj : fs[j]? = some f) {o q : Nat} {ty : TypeId} {cs : List Value} (ht : f.type = ty) (ho : f.offset = o) (hc : P.cellsOf ty = q) (hx : (xs.drop o).take q = cs) :
    ∃ k z, DataW.trod enc P w base spare held k ty cs = some z := by
  obtain ⟨ys, k, _, _, _, hlen, hf⟩ := DataW.trod_struct he h
  have h1 := hf j f hj
  rw [ht, ho, hc, hx] at h1
  have hjl : j < ys.length := by rw [hlen]; exact (Array.getElem?_eq_some_iff.1 hj).1
  exact ⟨k, ys[j], h1.trans (List.getElem?_eq_getElem hjl)⟩
end

section
variable {H : Type} {enc : TypeId × Value → H} {w : World} {base : Nat} {spare : Nat → Bool} {held : Bool}

def RepM.cs (r : RepM) : List Value := [.int .i64 r.er, .int .u64 r.inc, .int .i64 r.st, r.va.v]

set_option maxRecDepth 100000 in
theorem el_rep {n : Nat} {xs : List Value} {y : DataW H × List MemPlace} (hl : xs.length = 4) (h : DataW.trod enc Tryz.prog w base spare held n 38 xs = some y) : ∃ t, xs = RepM.cs t ∧ RepM.ok w w.heap.size t := by
  match xs, hl with
  | [c0, c1, c2, c3], _ =>
    obtain ⟨_, _, h0⟩ := field_at Tryz.underlying38 h 0 rfl rfl rfl (by kernel_rfl) rfl
    obtain ⟨_, _, h1⟩ := field_at Tryz.underlying38 h 1 rfl rfl rfl (by kernel_rfl) rfl
    obtain ⟨_, _, h2⟩ := field_at Tryz.underlying38 h 2 rfl rfl rfl (by kernel_rfl) rfl
    obtain ⟨_, _, h3⟩ := field_at Tryz.underlying38 h 3 rfl rfl rfl (by kernel_rfl) rfl
    obtain ⟨a, rfl, ha⟩ := open_i64c Tryz.underlying36 h0
    obtain ⟨b, rfl, hb⟩ := open_u64c Tryz.underlying25 h1
    obtain ⟨c, rfl, hc⟩ := open_i64c Tryz.underlying3 h2
    obtain ⟨d, rfl, hd⟩ := open_intc h3
    exact ⟨⟨a, b, c, d⟩, rfl, ⟨ha, hb, hc⟩, hd⟩

set_option maxRecDepth 100000 in
/-- a reply that comes in -/
theorem open_rep {r : Reach} {b0 : Nat} {v : Value} {d : DataW H} {p : List MemPlace} (hv : Value.okWide Tryz.prog w r b0 38 v) (h : DataW.Trod enc Tryz.prog w base spare held 38 v d p) :
    ∃ s : RepM, v = s.v ∧ RepM.ok w w.heap.size s := by
  obtain ⟨cs, rfl, hsz⟩ := okWide_struct Tryz.underlying38 hv
  obtain ⟨fuel, hf⟩ := h
  obtain ⟨l⟩ := cs
  have h8 : Tryz.prog.cellsOf 38 = 4 := by kernel_rfl
  have hl : l.length = 4 := hsz.trans h8
  obtain ⟨s, e, hs⟩ := el_rep (by simpa [Value.cells] using hl) hf
  refine ⟨s, ?_, hs⟩
  have e2 : l = RepM.cs s := by simpa [Value.cells] using e
  rw [e2]
  rfl
end
end Go.Proofs.YtpiikdinphnjbaaGreat

/-
  Contracts of engine's Settled and Next, and of the reference's.
-/
namespace Go.Proofs.YtpiikdinphnjbaaGreat
open Go.RowKit

/-- is a message settled by a mark? -/
def setdX (so inc ce : Int) (m : MrkM) : Bool := decide (m.1 = so) && (decide (inc < m.2.1) || (decide (m.2.1 = inc) && decide (ce ≤ m.2.2)))
def setdK (so inc ce : Int) (l : List MrkM) (k : Nat) : Bool := match l[k]? with | some m => setdX so inc ce m | none => false
def setdB (so inc ce : Int) (l : List MrkM) : Bool := anyB (setdK so inc ce l) l.length
theorem setdK_at {so inc ce : Int} {l : List MrkM} {k : Nat} {m : MrkM} (h : l[k]? = some m) : setdK so inc ce l k = setdX so inc ce m := by unfold setdK; rw [h]

set_option maxRecDepth 100000 in
theorem settle1_any (m : MrkM) (zs zi zc : Nat) (so inc ce : Int) (w : World) (h1 : w.cell? ⟨zs, 0, none⟩ = some (.int .u8 so)) (h2 : w.cell? ⟨zi, 0, none⟩ = some (.int .u64 inc)) (h3 : w.cell? ⟨zc, 0, none⟩ = some (.int .u64 ce)) (z1 : zs < w.heap.size) (z2 : zi < w.heap.size) (z3 : zc < w.heap.size) :
    Calls Tryz.prog 29 #[mrkV m, .pointer (some ⟨zs, 0, none⟩), .pointer (some ⟨zi, 0, none⟩), .pointer (some ⟨zc, 0, none⟩)] w fun e w' => e = .returned (.bool (setdX so inc ce m)) ∧ Below w.heap.size w w' := by
  obtain ⟨ms, mi, mc⟩ := m
  have HW := hide_ (show Below w.heap.size w (w.alloc (.cells #[.int .u8 ms, .int .u64 mi, .int .u64 mc] 65)) from (Below.refl _ _).alloc (Nat.le_refl _) _)
  obtain ⟨G, hG⟩ : ∃ G, setdX so inc ce (ms, mi, mc) = G := ⟨_, rfl⟩
  have HG := hide_ (show G = (decide (ms = so) && (decide (inc < mi) || (decide (mi = inc) && decide (ce ≤ mc)))) by rw [← hG]; rfl)
  rw [hG]
  simp only [mrkV]
  clear hG
  by_cases q_s : ms = so
  case pos =>
    have d_s : (ms == so) = true := beq_iff_eq.2 q_s
    by_cases q_i : inc < mi
    case pos =>
      have d_i : decide (inc < mi) = true := decide_eq_true q_i
      have HP := hide_ (show G = true by rw [HG.out]; simp [*])
      clear q_s q_i
      go_enter Tryz.func29, Tryz.ntmps29
      go_wp2
      go_ret
      exact ⟨ret_boolT HP.out.symm, HW.out⟩
    case neg =>
      have d_i : decide (inc < mi) = false := decide_eq_false q_i
      by_cases q_e : mi = inc
      case pos =>
        have d_e : (mi == inc) = true := beq_iff_eq.2 q_e
        by_cases q_c : ce ≤ mc
        case pos =>
          have d_c : decide (ce ≤ mc) = true := decide_eq_true q_c
          have HP := hide_ (show G = true by rw [HG.out]; simp [*])
          clear q_s q_i q_e q_c
          go_enter Tryz.func29, Tryz.ntmps29
          go_wp2
          go_ret
          exact ⟨ret_boolT HP.out.symm, HW.out⟩
        case neg =>
          have d_c : decide (ce ≤ mc) = false := decide_eq_false q_c
          have HP := hide_ (show G = false by rw [HG.out]; simp [*])
          clear q_s q_i q_e q_c
          go_enter Tryz.func29, Tryz.ntmps29
          go_wp2
          go_ret
          exact ⟨ret_boolT HP.out.symm, HW.out⟩
      case neg =>
        have d_e : (mi == inc) = false := beq_eq_false_iff_ne.2 q_e
        have HP := hide_ (show G = false by rw [HG.out]; simp [*])
        clear q_s q_i q_e
        go_enter Tryz.func29, Tryz.ntmps29
        go_wp2
        go_ret
        exact ⟨ret_boolT HP.out.symm, HW.out⟩
  case neg =>
    have d_s : (ms == so) = false := beq_eq_false_iff_ne.2 q_s
    have HP := hide_ (show G = false by rw [HG.out]; simp [*])
    clear q_s
    go_enter Tryz.func29, Tryz.ntmps29
    go_wp2
    go_ret
    exact ⟨ret_boolT HP.out.symm, HW.out⟩

set_option maxRecDepth 100000 in
set_option maxHeartbeats 3200000 in
theorem Settled_any (r : RegM) (so inc0 ce : Int) (B : Nat) (w : World) (hr : RegM.ok w B r) (hB : B ≤ w.heap.size) :
    Calls Tryz.prog 14 #[r.v, .int .u8 so, .int .u64 inc0, .int .u64 ce] w fun e w' => e = .returned (.bool (setdB so inc0 ce r.ma.l)) ∧ Below w.heap.size w w' := by
  have HM := hide_ (fun (u : World) (hb : Below w.heap.size w u) => mrks_stable.more (mrks_stable.below hr.2.2.2.2 (hb.mono hB)) (Nat.le_trans hB hb.size))
  clear hr
  obtain ⟨ki, inc, st, ⟨vA, vc, vl⟩, ⟨dA, dc, dl⟩, ⟨oA, oc, ol⟩, la, ⟨mA, mc, ml⟩⟩ := r
  obtain ⟨no, hno⟩ : ∃ n, ol.length = n := ⟨_, rfl⟩
  obtain ⟨nm, hnm⟩ : ∃ n, ml.length = n := ⟨_, rfl⟩
  simp only [RegM.v, Sl.v, hno, hnm]
  obtain ⟨W0, hW0⟩ : ∃ W0, (((w.alloc (.cells #[.int .u8 ki, .int .u64 inc, .int .i64 st, .slice vA vl.length vc, .slice dA dl.length dc, .slice oA no oc, .int .u64 la, .slice mA nm mc] 31)).alloc (.cells #[.int .u8 so] 5)).alloc (.cells #[.int .u64 inc0] 25)).alloc (.cells #[.int .u64 ce] 25) = W0 := ⟨_, rfl⟩
  have HB0 := hide_ (show Below w.heap.size w W0 from hW0 ▸ ((((Below.refl _ _).alloc (Nat.le_refl _) _).alloc (by simp) _).alloc (by simp; omega) _).alloc (by simp; omega) _)
  have HS0 := hide_ (show BoxAt W0 (w.heap.size + 1) #[.int .u8 so] 5 from by
    have h := ((BoxAt.new (w.alloc (.cells #[.int .u8 ki, .int .u64 inc, .int .i64 st, .slice vA vl.length vc, .slice dA dl.length dc, .slice oA no oc, .int .u64 la, .slice mA nm mc] 31)) #[.int .u8 so] 5).alloc (.cells #[.int .u64 inc0] 25)).alloc (.cells #[.int .u64 ce] 25)
    rw [hW0] at h
    simpa using h)
  have HI0 := hide_ (show BoxAt W0 (w.heap.size + 2) #[.int .u64 inc0] 25 from by
    have h := (BoxAt.new ((w.alloc (.cells #[.int .u8 ki, .int .u64 inc, .int .i64 st, .slice vA vl.length vc, .slice dA dl.length dc, .slice oA no oc, .int .u64 la, .slice mA nm mc] 31)).alloc (.cells #[.int .u8 so] 5)) #[.int .u64 inc0] 25).alloc (.cells #[.int .u64 ce] 25)
    rw [hW0] at h
    simpa using h)
  have HC0 := hide_ (show BoxAt W0 (w.heap.size + 3) #[.int .u64 ce] 25 from by
    have h := BoxAt.new (((w.alloc (.cells #[.int .u8 ki, .int .u64 inc, .int .i64 st, .slice vA vl.length vc, .slice dA dl.length dc, .slice oA no oc, .int .u64 la, .slice mA nm mc] 31)).alloc (.cells #[.int .u8 so] 5)).alloc (.cells #[.int .u64 inc0] 25)) #[.int .u64 ce] 25
    rw [hW0] at h
    simpa using h)
  have HCF := hide_ (containsMark_any (setdK so inc0 ce ml) (fun _ _ => True) 29 #[.pointer (some ⟨w.heap.size + 1, 0, none⟩), .pointer (some ⟨w.heap.size + 2, 0, none⟩), .pointer (some ⟨w.heap.size + 3, 0, none⟩)] ⟨mA, mc, ml⟩ W0.heap.size W0 (HM.out _ HB0.out) (Nat.le_refl _) trivial (fun _ _ => rfl) (fun k x wr hx hb _ => by
    rw [setdK_at hx]
    exact (settle1_any x (w.heap.size + 1) (w.heap.size + 2) (w.heap.size + 3) so inc0 ce wr ((HS0.out.below hb).cell 0) ((HI0.out.below hb).cell 0) ((HC0.out.below hb).cell 0) (HS0.out.below hb).lt (HI0.out.below hb).lt (HC0.out.below hb).lt).mono fun e w' h => ⟨h.1, fun _ => trivial, h.2.mono hb.size⟩))
  have HR := hide_ (show anyB (setdK so inc0 ce ml) nm = setdB so inc0 ce ml by rw [← hnm]; rfl)
  simp only [Sl.v, hnm] at HCF
  rw [HR.out] at HCF
  have HW0 := hide_ hW0
  clear hno hnm hW0 HM HS0 HI0 HC0
  go_enter Tryz.func14, Tryz.ntmps14
  go_wp2_with fail
  rw [HW0.out]
  refine HCF.out.mono ?_
  rintro en w1 ⟨rfl, hb1⟩
  have HB1 := hide_ (HB0.out.trans (hb1.mono HB0.out.size))
  clear hb1
  go_wp2
  go_ret
  exact ⟨rfl, HB1.out⟩

end Go.Proofs.YtpiikdinphnjbaaGreat
