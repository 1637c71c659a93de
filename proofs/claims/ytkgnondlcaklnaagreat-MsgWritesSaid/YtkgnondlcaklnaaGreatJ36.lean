/-
  Texts of this claim put together: SameG, PutG.
-/
import Derived.Test.YtkgnondlcaklnaaGreatJ32
import Derived.Test.YtkgnondlcaklnaaGreatJ33
import Derived.Test.YtkgnondlcaklnaaGreatJ34
import Derived.Test.YtkgnondlcaklnaaGreatJ35
import Derived.Test.YtkgnondlcaklnaaGreatJ17
import Derived.Test.YtkgnondlcaklnaaGreatJ27
import Derived.IntWalk
/-
  Contracts of reg's Same and May.
-/
namespace Go.Proofs.YtkgnondlcaklnaaGreat
open Go.RowKit

theorem regP_eq (a b : RegP) : decide (a = b) = (decide (a.ki = b.ki) && (decide (a.inc = b.inc) && (decide (a.st = b.st) && (decide (a.va = b.va) && (decide (a.dn = b.dn) && (decide (a.ou = b.ou) && (decide (a.la = b.la) && decide (a.ma = b.ma)))))))) := by
  obtain ⟨_, _, _, _, _, _, _, _⟩ := a
  obtain ⟨_, _, _, _, _, _, _, _⟩ := b
  rw [Bool.eq_iff_iff]
  simp only [RegP.mk.injEq, Bool.and_eq_true, decide_eq_true_eq]

set_option maxRecDepth 100000 in
set_option maxHeartbeats 6400000 in
theorem sameReg_any (x y : RegM) (B : Nat) (w : World) (hx : RegM.ok w B x) (hy : RegM.ok w B y) (hB : B ≤ w.heap.size) : Calls Tryz.prog 96 #[x.v, y.v] w fun e w' => e = .returned (.bool (decide (x.p = y.p))) ∧ Below w.heap.size w w' := by
  have HW := hide_ (show Below w.heap.size w ((w.alloc (.cells x.box 31)).alloc (.cells y.box 31)) from ((Below.refl _ _).alloc (Nat.le_refl _) _).alloc (by simp) _)
  have HX := hide_ ((BoxAt.new w x.box 31).alloc (.cells y.box 31))
  have HY := hide_ (show BoxAt ((w.alloc (.cells x.box 31)).alloc (.cells y.box 31)) (w.heap.size + 1) y.box 31 by
    have := BoxAt.new (w.alloc (.cells x.box 31)) y.box 31
    simpa using this)
  have HCI := hide_ (fun (u : World) (hb : Below w.heap.size w u) => equalInt_any x.va.l y.va.l x.va.A y.va.A x.va.l.length y.va.l.length x.va.c y.va.c B u rfl rfl (sl_len hx.2.1) (sl_len hy.2.1) (hx.2.1.2.2.1.below (hb.mono hB)) (hy.2.1.2.2.1.below (hb.mono hB)) (Nat.le_trans hB hb.size))
  have HCD := hide_ (fun (u : World) (hb : Below w.heap.size w u) => equalDone_any x.dn y.dn B u (dns_stable.below hx.2.2.1 (hb.mono hB)) (dns_stable.below hy.2.2.1 (hb.mono hB)) (Nat.le_trans hB hb.size))
  have HCC := hide_ (fun (u : World) (hb : Below w.heap.size w u) => equalCell_any x.ou.l y.ou.l x.ou.A y.ou.A x.ou.l.length y.ou.l.length x.ou.c y.ou.c B u rfl rfl (sl_len hx.2.2.2.1) (sl_len hy.2.2.2.1) (hx.2.2.2.1.2.2.1.below (hb.mono hB)) (hy.2.2.2.1.2.2.1.below (hb.mono hB)) (Nat.le_trans hB hb.size))
  have HCM := hide_ (fun (u : World) (hb : Below w.heap.size w u) => equalMark_any x.ma.l y.ma.l x.ma.A y.ma.A x.ma.l.length y.ma.l.length x.ma.c y.ma.c B u rfl rfl (sl_len hx.2.2.2.2) (sl_len hy.2.2.2.2) (hx.2.2.2.2.2.2.1.below (hb.mono hB)) (hy.2.2.2.2.2.2.1.below (hb.mono hB)) (Nat.le_trans hB hb.size))
  have HP := hide_ (regP_eq x.p y.p)
  rw [HP.out]
  unfold RegM.p
  simp only
  obtain ⟨q4, h4⟩ : ∃ q, decide (x.va.l = y.va.l) = q := ⟨_, rfl⟩
  obtain ⟨q5, h5⟩ : ∃ q, decide (x.dn.l.map DoneM.p = y.dn.l.map DoneM.p) = q := ⟨_, rfl⟩
  obtain ⟨q6, h6⟩ : ∃ q, decide (x.ou.l = y.ou.l) = q := ⟨_, rfl⟩
  obtain ⟨q8, h8⟩ : ∃ q, decide (x.ma.l = y.ma.l) = q := ⟨_, rfl⟩
  simp only [h4] at HCI ⊢
  simp only [h5] at HCD ⊢
  simp only [h6] at HCC ⊢
  simp only [h8] at HCM ⊢
  clear HP h4 h5 h6 h8 hx hy
  obtain ⟨ki, inc, st, ⟨vA, vc, vl⟩, ⟨dA, dc, dl⟩, ⟨oA, oc, ol⟩, la, ⟨mA, mc, ml⟩⟩ := x
  obtain ⟨ki2, inc2, st2, ⟨vA2, vc2, vl2⟩, ⟨dA2, dc2, dl2⟩, ⟨oA2, oc2, ol2⟩, la2, ⟨mA2, mc2, ml2⟩⟩ := y
  simp only [RegM.v, RegM.box, Sl.v] at HCI HCD HCC HCM HW HX HY ⊢
  by_cases c0 : ki = ki2
  case neg =>
    have hd : (ki == ki2) = false := beq_eq_false_iff_ne.2 c0
    have hf := decide_eq_false c0
    have HE := hide_ hf
    clear c0 hf
    go_enter Tryz.func96, Tryz.ntmps96
    go_wp2
    go_ret
    exact ⟨by rw [HE.out]; simp, HW.out⟩
  subst c0
  by_cases c1 : inc = inc2
  case neg =>
    have hd : (inc == inc2) = false := beq_eq_false_iff_ne.2 c1
    have hf := decide_eq_false c1
    have HE := hide_ hf
    clear c1 hf
    go_enter Tryz.func96, Tryz.ntmps96
    go_wp2
    go_ret
    exact ⟨by rw [HE.out]; simp, HW.out⟩
  subst c1
  by_cases c2 : st = st2
  case neg =>
    have hd : (st == st2) = false := beq_eq_false_iff_ne.2 c2
    have hf := decide_eq_false c2
    have HE := hide_ hf
    clear c2 hf
    go_enter Tryz.func96, Tryz.ntmps96
    go_wp2
    go_ret
    exact ⟨by rw [HE.out]; simp, HW.out⟩
  subst c2
  simp only [decide_true, Bool.true_and]
  go_enter Tryz.func96, Tryz.ntmps96
  go_wp2_with fail
  refine (HCI.out _ HW.out).mono ?_
  rintro en w1 ⟨rfl, hb1⟩
  have HB1 := hide_ (HW.out.trans (hb1.mono HW.out.size))
  have HX1 := hide_ (HX.out.below hb1)
  have HY1 := hide_ (HY.out.below hb1)
  clear hb1
  have hz1 : w.heap.size < w1.heap.size := HX1.out.lt
  have hy1 : w.heap.size + 1 < w1.heap.size := HY1.out.lt
  have hcx := HX1.out.cell
  have hcy := HY1.out.cell
  cases q4 with
  | false =>
    go_wp2
    go_ret
    exact ⟨by simp, HB1.out⟩
  | true =>
  go_wp2_with fail
  refine (HCD.out _ HB1.out).mono ?_
  rintro en w2 ⟨rfl, hb2⟩
  have HB2 := hide_ (HB1.out.trans (hb2.mono HB1.out.size))
  have HX2 := hide_ (HX1.out.below hb2)
  have HY2 := hide_ (HY1.out.below hb2)
  clear hb2 hcx hcy
  have hz2 : w.heap.size < w2.heap.size := HX2.out.lt
  have hy2 : w.heap.size + 1 < w2.heap.size := HY2.out.lt
  have hcx := HX2.out.cell
  have hcy := HY2.out.cell
  cases q5 with
  | false =>
    go_wp2
    go_ret
    exact ⟨by simp, HB2.out⟩
  | true =>
  go_wp2_with fail
  refine (HCC.out _ HB2.out).mono ?_
  rintro en w3 ⟨rfl, hb3⟩
  have HB3 := hide_ (HB2.out.trans (hb3.mono HB2.out.size))
  have HX3 := hide_ (HX2.out.below hb3)
  have HY3 := hide_ (HY2.out.below hb3)
  clear hb3 hcx hcy
  have hz3 : w.heap.size < w3.heap.size := HX3.out.lt
  have hy3 : w.heap.size + 1 < w3.heap.size := HY3.out.lt
  have hcx := HX3.out.cell
  have hcy := HY3.out.cell
  cases q6 with
  | false =>
    go_wp2
    go_ret
    exact ⟨by simp, HB3.out⟩
  | true =>
  by_cases c6 : la = la2
  case neg =>
    have hd : (la == la2) = false := beq_eq_false_iff_ne.2 c6
    have hf := decide_eq_false c6
    have HE := hide_ hf
    clear c6 hf
    go_wp2
    go_ret
    exact ⟨by rw [HE.out]; simp, HB3.out⟩
  subst c6
  go_wp2_with fail
  refine (HCM.out _ HB3.out).mono ?_
  rintro en w4 ⟨rfl, hb4⟩
  have HB4 := hide_ (HB3.out.trans (hb4.mono HB3.out.size))
  clear hb4 hcx hcy
  go_wp2
  go_ret
  exact ⟨by simp, HB4.out⟩

set_option maxRecDepth 100000 in
set_option maxHeartbeats 3200000 in
theorem mayReg_any (x : RegM) (B : Nat) (w : World) (hx : RegM.ok w B x) (hB : B ≤ w.heap.size) : Calls Tryz.prog 53 #[x.v] w fun e w' => e = .returned (.bool (mayG x.p)) ∧ Below w.heap.size w w' := by
  have HW := hide_ (show Below w.heap.size w (w.alloc (.cells x.box 31)) from (Below.refl _ _).alloc (Nat.le_refl _) _)
  have HX := hide_ (BoxAt.new w x.box 31)
  have HS := hide_ (fun (u : World) (hb : Below w.heap.size w u) => sameReg_any x zeroM B u (reg_stable.below hx (hb.mono hB)) (zeroM_ok u B) (Nat.le_trans hB hb.size))
  have HM := hide_ (fun (u : World) (hb : Below w.heap.size w u) => mayStand_any6 x u.heap.size u (reg_stable.more (reg_stable.below hx (hb.mono hB)) (Nat.le_trans hB hb.size)) (Nat.le_refl _))
  have hm1 := sl_len hx.2.1
  have hm2 := sl_len hx.2.2.2.1
  have hk0 := hx.1.1
  have HZ := hide_ (show mayG x.p = if x.ki = 0 then decide (x.p = zeroP) else if x.ki = 1 then stnB x.p else if x.ki = 2 then stnB x.p && (decide (x.st = 0) && (decide (x.va.l.length = 0) && decide (x.ou.l.length = 0))) else false from rfl)
  rw [HZ.out]
  obtain ⟨q1, h1⟩ : ∃ q, decide (x.p = zeroP) = q := ⟨_, rfl⟩
  obtain ⟨q2, h2⟩ : ∃ q, stnB x.p = q := ⟨_, rfl⟩
  simp only [show zeroM.p = zeroP from rfl, h1] at HS
  simp only [h2] at HM
  simp only [h1, h2]
  clear HZ h1 h2 hx
  obtain ⟨ki, inc, st, ⟨vA, vc, vl⟩, ⟨dA, dc, dl⟩, ⟨oA, oc, ol⟩, la, ⟨mA, mc, ml⟩⟩ := x
  simp only [RegM.v, RegM.box, Sl.v, zeroM, List.length_nil] at HS HM HW HX hm1 hm2 hk0 ⊢
  obtain ⟨nv, hnv⟩ : ∃ n, vl.length = n := ⟨_, rfl⟩
  obtain ⟨no, hno⟩ : ∃ n, ol.length = n := ⟨_, rfl⟩
  simp only [hnv, hno] at HS HM HW HX hm1 hm2 ⊢
  clear hnv hno
  by_cases k0 : ki = 0
  · subst k0
    simp only [if_true]
    go_enter Tryz.func53, Tryz.ntmps53
    go_wp2_with fail
    refine (HS.out _ HW.out).mono ?_
    rintro en w1 ⟨rfl, hb1⟩
    have HB1 := hide_ (HW.out.trans (hb1.mono (by simp)))
    clear hb1
    go_wp2
    go_ret
    exact ⟨rfl, HB1.out⟩
  have hd0 : (ki == 0) = false := beq_eq_false_iff_ne.2 k0
  rw [if_neg k0]
  by_cases k1 : ki = 1
  · subst k1
    simp only [if_true]
    clear hd0 k0
    go_enter Tryz.func53, Tryz.ntmps53
    go_wp2_with fail
    refine (HM.out _ HW.out).mono ?_
    rintro en w1 ⟨rfl, hb1⟩
    have HB1 := hide_ (HW.out.trans (hb1.mono (by simp)))
    clear hb1
    go_wp2
    go_ret
    exact ⟨rfl, HB1.out⟩
  have hd1 : (ki == 1) = false := beq_eq_false_iff_ne.2 k1
  rw [if_neg k1]
  by_cases k2 : ki = 2
  · subst k2
    simp only [if_true]
    clear hd0 k0 hd1 k1
    go_enter Tryz.func53, Tryz.ntmps53
    go_wp2_with fail
    refine (HM.out _ HW.out).mono ?_
    rintro en w1 ⟨rfl, hb1⟩
    have HB1 := hide_ (HW.out.trans (hb1.mono (by simp)))
    have HX1 := hide_ (HX.out.below hb1)
    clear hb1
    have hz1 : w.heap.size < w1.heap.size := HX1.out.lt
    have hcx := HX1.out.cell
    cases q2 with
    | false =>
      go_wp2
      go_ret
      exact ⟨rfl, HB1.out⟩
    | true =>
    by_cases c1 : st = 0
    case neg =>
      have hd : (st == 0) = false := beq_eq_false_iff_ne.2 c1
      have HE := hide_ (decide_eq_false c1)
      clear c1
      go_wp2
      go_ret
      exact ⟨by rw [HE.out]; simp, HB1.out⟩
    subst c1
    by_cases c2 : nv = 0
    case neg =>
      have hd : ((nv : Int) == 0) = false := beq_eq_false_iff_ne.2 (by omega)
      have HE := hide_ (decide_eq_false c2)
      clear c2
      go_wp2
      go_ret
      exact ⟨by rw [HE.out]; simp, HB1.out⟩
    subst c2
    by_cases c3 : no = 0
    case neg =>
      have hd : ((no : Int) == 0) = false := beq_eq_false_iff_ne.2 (by omega)
      have HE := hide_ (decide_eq_false c3)
      clear c3
      go_wp2
      go_ret
      exact ⟨by rw [HE.out]; simp, HB1.out⟩
    subst c3
    go_wp2
    go_ret
    exact ⟨by simp, HB1.out⟩
  have hd2 : (ki == 2) = false := beq_eq_false_iff_ne.2 k2
  rw [if_neg k2]
  clear k0 k1 k2
  go_enter Tryz.func53, Tryz.ntmps53
  go_wp2
  go_ret
  exact ⟨rfl, HW.out⟩
end Go.Proofs.YtkgnondlcaklnaaGreat

/-
  Contracts of reg's putting functions: what is put stands behind bytes of one's own.
-/
namespace Go.Proofs.YtkgnondlcaklnaaGreat
open Go.RowKit

def uv (l : List Int) : List Value := l.map (Value.int .u64)
theorem uv_length (l : List Int) : (uv l).length = l.length := by simp [uv]
theorem sees_uv {w : World} (l : List Int) (cs : Array Value) (t : TypeId) (z : Nat) (hz : w.heap.size = z) (h : cs = (uv l).toArray) : Sees (w.alloc (.cells cs t)) (z + 1) (some ⟨z, 0, none⟩) (uv l) := by
  subst hz h
  exact sees_box w (uv l).toArray t (uv l) rfl

/-- variables' bytes; an entry's, a cell's, a mark's, a register's -/
def varB (l : List Int) : List UInt8 := natB l.length ++ l.flatMap intB
def donB (d : DoneP) : List UInt8 := natB d.1 ++ (natB d.2.1 ++ (natB d.2.2.1 ++ (natB d.2.2.2.1 ++ (natB d.2.2.2.2.1 ++ varB d.2.2.2.2.2))))
def celB (c : CelM) : List UInt8 := natB c.1 ++ (natB c.2.1 ++ (natB c.2.2.1 ++ intB c.2.2.2))
def mrkB (m : MrkM) : List UInt8 := natB m.1 ++ (natB m.2.1 ++ natB m.2.2)
def regB (r : RegP) : List UInt8 :=
  natB r.ki ++ (if r.ki = 0 then [] else natB r.inc ++ (natB r.st ++ (varB r.va ++ ((natB r.dn.length ++ r.dn.flatMap donB) ++ ((natB r.ou.length ++ r.ou.flatMap celB) ++ (natB r.la ++ (natB r.ma.length ++ r.ma.flatMap mrkB)))))))
theorem natU_len (n : Int) (h : U64 n) : (natB n).length ≤ 10 := by
  unfold U64 at h
  exact numB_length _ (by omega)
theorem varB_len (l : List Int) (h : ∀ x ∈ l, I64 x) (h1 : l.length ≤ 50) : (varB l).length ≤ 510 := by
  unfold varB
  rw [List.length_append]
  have h2 := natB_len l.length (by omega)
  have h3 := flat_le l fun t ht => intB_len t (h t ht)
  omega

set_option maxRecDepth 100000 in
theorem putNums6_any (l r : List UInt8) (ns : List Int) (base : Nat) (v : Value) (B : Nat) (A : Option Addr) (q c : Nat) (w : World) (hres : l ++ numsB ns = r) (hq : ns.length = q) (hq4 : q ≤ 4) (hn : ∀ x ∈ ns, U64 x) (hl : l.length ≤ 1000000)
    (hown : w.ownsRow base 5 1 v l.length (bv l)) (hbase : base ≤ w.heap.size) (hs : Sees w B A (uv ns)) (hB : B ≤ w.heap.size) (hne : ∀ g o, A = some ⟨g, o, none⟩ → v.ownBlock ≠ some g) :
    Calls Tryz.prog 76 #[v, .slice A q c] w (PutsOn base v r w) := by
  have HQ := hide_ hq
  have HN := hide_ hn
  have HO := hide_ hown
  have HS := hide_ hs
  have HNE := hide_ hne
  have HR := hide_ (show l ++ numsB (ns.take q) = r by rw [← hq, List.take_length]; exact hres)
  clear hq hn hown hs hne hres
  go_enter Tryz.func76, Tryz.ntmps76
  go_wp2
  go_loopw [0, 9] (fun b i wr => ∃ (k : Nat), k ≤ q ∧ i = .int .i64 k ∧ Hid (RowStep base v w b wr (l ++ numsB (ns.take k)))) (fun _ i _ => q - (intOf i).toNat)
  case atStart => exact ⟨0, Nat.zero_le _, rfl, hide_ (by simpa [numsB] using RowStep.refl HO.out)⟩
  case round =>
    obtain ⟨k, hk, rfl, HK⟩ := hrel
    have hzw : w.heap.size ≤ wr.heap.size := HK.out.grow.size
    by_cases hlt : k < q
    · obtain ⟨x, hx⟩ : ∃ x, ns[k]? = some x := ⟨_, List.getElem?_eq_getElem (by rw [HQ.out]; exact hlt)⟩
      have hx2 := HN.out x (List.mem_of_getElem? hx)
      obtain ⟨b, o, hAe, hb, hc⟩ := HS.out.flat (by rw [uv_length, HQ.out]; omega)
      have hcell : w.cell? ⟨b, o + k, none⟩ = some (.int .u64 x) := hc k _ (by simp [uv, hx])
      have hcell2 : wr.cell? ⟨b, o + k, none⟩ = some (.int .u64 x) := by
        rw [← hcell]
        exact World.cell?_of_block (a := ⟨b, o + k, none⟩) (HK.out.grow.block b (by omega) fun e => HNE.out b o hAe e.symm)
      have hbw : b < wr.heap.size := by omega
      subst hAe
      obtain ⟨y, rfl⟩ := Int.eq_ofNat_of_zero_le hx2.1
      have hy := hx2.2
      have HX := hide_ (show l ++ numsB (ns.take (k + 1)) = (l ++ numsB (ns.take k)) ++ numB y by
        unfold numsB
        rw [flat_snoc hx, List.append_assoc]
        rfl)
      have HLN := hide_ (show (l ++ numsB (ns.take k)).length ≤ 1000040 by
        have h1 := flat_take_le (f := natB) (q := 10) ns (fun z hz => natU_len z (HN.out z hz)) k
        rw [HQ.out] at h1
        rw [List.length_append]
        unfold numsB
        omega)
      have HNL := hide_ (numB_length y (by omega))
      have HY := hide_ (show y < 18446744073709551616 by omega)
      clear hx hx2 hc hcell hy
      obtain ⟨l2, hl2⟩ : ∃ l2, l ++ numsB (ns.take (k + 1)) = l2 := ⟨_, rfl⟩
      rw [hl2] at HX
      have HL2 := hide_ hl2
      clear hl2
      generalize l ++ numsB (ns.take k) = l1 at HX HLN HK
      go_wp2_with fail
      refine (PutNum_any [] (numB y) y wr.heap.size none 0 0 _ rfl rfl HY.out (Sees.empty _ _ _) (Nat.le_refl _) (by simp)).mono ?_
      rintro en w2 ⟨A2, c2, rfl, hown2, hb2⟩
      have HB2 := hide_ hb2
      have HO2 := hide_ hown2
      clear hb2 hown2
      go_wp2_with (at_builtin; refine wpList_append_row _ rfl _ _ 52 rfl base u8_info Tryz.underlying52 _ l1 (numB y) l2 HX.out.symm rfl (own_below HK.out.own HB2.out) w2.heap.size A2 (numB y).length c2 rfl rfl (Sees.own HO2.out) ⟨by have := HLN.out; omega, by have := HNL.out; omega⟩ (by have := HB2.out.size; omega) ?_; intro A3 c3 w3 hst; have HST := hide_ (HK.out.trans (RowStep.fresh HB2.out hst)); clear hst)
      go_roundw
      case rel => exact ⟨k + 1, by omega, by go_num, by rw [HL2.out]; assumption⟩
      case measure => simp [intOf]; omega
    · obtain rfl : k = q := by omega
      have HK2 := hide_ (HR.out ▸ HK.out)
      clear HK
      obtain ⟨A3, c3, hA3⟩ := own_slice HK2.out.own
      subst hA3
      go_wp2
      go_ret
      exact ⟨_, _, rfl, HK2.out⟩

/-- a call of putNums with a list that has just been made -/
theorem putNums6_at (l r : List UInt8) (ns : List Int) (base : Nat) (v : Value) (q z : Nat) (w u : World) (C : Nat) (hC : C ≤ u.heap.size) (hb : Below w.heap.size w u) (hse : Sees u C (some ⟨z, 0, none⟩) (uv ns)) (hz : w.heap.size ≤ z) (hres : l ++ numsB ns = r) (hq : ns.length = q) (hq4 : q ≤ 4) (hn : ∀ x ∈ ns, U64 x) (hl : l.length ≤ 1000000)
    (hown : w.ownsRow base 5 1 v l.length (bv l)) (hbase : base ≤ w.heap.size) :
    Calls Tryz.prog 76 #[v, .slice (some ⟨z, 0, none⟩) q q] u fun e w' => ∃ A c, e = .returned (.slice A r.length c) ∧ RowStep base v u (.slice A r.length c) w' r := by
  refine (putNums6_any l r ns base v C (some ⟨z, 0, none⟩) q q _ hres hq hq4 hn hl (own_below hown hb) (Nat.le_trans hbase hb.size) hse hC (fun g o e => ?_)).mono ?_
  · injection e with e
    injection e with e _
    subst e
    exact own_old hown hz
  · rintro e w' ⟨A, c, rfl, hs⟩
    exact ⟨A, c, rfl, hs⟩

theorem uB1 (a : Int) : numsB [a] = natB a := by simp [numsB]
theorem uB2 (a b : Int) : numsB [a, b] = natB a ++ natB b := by simp [numsB]
theorem uB3 (a b c : Int) : numsB [a, b, c] = natB a ++ (natB b ++ natB c) := by simp [numsB]
theorem uB4 (a b c d : Int) : numsB [a, b, c, d] = natB a ++ (natB b ++ (natB c ++ natB d)) := by simp [numsB]
theorem u64_of_nat (n : Nat) (h : n ≤ 1000000) : U64 (n : Int) := by unfold U64; omega
theorem u64_of_small {n : Int} (h0 : 0 ≤ n) (h : n ≤ 1000000) : U64 n := by unfold U64; omega

set_option maxRecDepth 100000 in
set_option maxHeartbeats 1600000 in
theorem putState_any (l r : List UInt8) (st : Int) (s : IntS) (n : Nat) (hnn : s.l.length = n) (base : Nat) (v : Value) (B : Nat) (w : World) (hres : l ++ (natB st ++ varB s.l) = r) (hst : 0 ≤ st ∧ st ≤ 31) (hl : l.length ≤ 900000) (hn : n ≤ 50) (hs : intsOk w B s) (hB : B ≤ base)
    (hown : w.ownsRow base 5 1 v l.length (bv l)) (hbase : base ≤ w.heap.size) :
    Calls Tryz.prog 77 #[v, .int .i64 st, .slice s.A n s.c] w (PutsOn base v r w) := by
  obtain ⟨A, c, f⟩ := s
  simp only at hnn
  have HS := hide_ hs.2.2.1
  have HT := hide_ hs.2.2.2
  have HN := hide_ hnn
  have HO := hide_ hown
  obtain ⟨l1, hl1⟩ : ∃ l1, l ++ (natB st ++ natB n) = l1 := ⟨_, rfl⟩
  have HR := hide_ (show l1 ++ (f.take n).flatMap intB = r by
    rw [← hnn, List.take_length, ← hl1, ← hres]
    unfold varB
    simp only [hnn, List.append_assoc])
  have HL1 := hide_ (show l ++ numsB [st, (n : Int)] = l1 by rw [uB2]; exact hl1)
  have HLE := hide_ (show l1.length ≤ 900020 by rw [← hl1, List.length_append, List.length_append]; have := natB_len st (by omega); have := natB_len n (by omega); omega)
  have HUU := hide_ (show ∀ x ∈ [st, (n : Int)], U64 x from fun x hx => by
    simp at hx
    rcases hx with rfl | rfl
    · exact u64_of_small hst.1 (by omega)
    · exact u64_of_nat n (by omega))
  have hs1 : 0 ≤ st := hst.1
  have hs2 : st ≤ 31 := hst.2
  have HB0 := hide_ ((Below.refl w.heap.size w).alloc (Nat.le_refl _) (.cells #[.int .u64 st, .int .u64 n] 25))
  have HSE0 := hide_ (sees_uv (w := w) [st, (n : Int)] #[.int .u64 st, .int .u64 n] 25 _ rfl rfl)
  clear hs hnn hown hres hl1 hst
  go_enter Tryz.func77, Tryz.ntmps77
  go_wp2_with fail
  refine (putNums6_at l l1 [st, (n : Int)] base v 2 _ w _ _ (by simp) HB0.out HSE0.out (Nat.le_refl _) HL1.out rfl (by omega) HUU.out (by omega) HO.out hbase).mono ?_
  rintro en w1 ⟨A1, c1, rfl, hst1⟩
  have HST := hide_ (RowStep.fresh HB0.out hst1)
  clear hst1 HL1
  go_wp2
  go_loopw [0, 19] (fun b i wr => ∃ (k : Nat), k ≤ n ∧ i = .int .i64 k ∧ Hid (RowStep base v w b wr (l1 ++ (f.take k).flatMap intB))) (fun _ i _ => n - (intOf i).toNat)
  case atStart => exact ⟨0, Nat.zero_le _, rfl, hide_ (by simpa using HST.out)⟩
  case round =>
    obtain ⟨k, hk, rfl, HK⟩ := hrel
    have hzw : w.heap.size ≤ wr.heap.size := HK.out.grow.size
    have hbw : Below B w wr := HK.out.below HO.out hB (by omega)
    by_cases hlt : k < n
    · obtain ⟨x, hx⟩ : ∃ x, f[k]? = some x := ⟨_, List.getElem?_eq_getElem (by rw [HN.out]; exact hlt)⟩
      obtain ⟨tb, ot, hAe, hab, h0⟩ := (HS.out.below hbw).i64 hx
      have hwz : tb < wr.heap.size := by omega
      subst hAe
      have HI := hide_ (HT.out x (List.mem_of_getElem? hx))
      have HX := hide_ (show l1 ++ (f.take (k + 1)).flatMap intB = (l1 ++ (f.take k).flatMap intB) ++ intB x by
        rw [flat_snoc hx]
        simp only [List.append_assoc])
      have HLN := hide_ (show (l1 ++ (f.take k).flatMap intB).length ≤ 901000 by
        have h1 := flat_take_le (f := intB) (q := 10) f (fun z hz => intB_len z (HT.out z hz)) k
        have h2 := HLE.out
        rw [HN.out] at h1
        rw [List.length_append]
        omega)
      have HXL := hide_ (intB_len x HI.out)
      obtain ⟨l2, hl2⟩ : ∃ l2, l1 ++ (f.take (k + 1)).flatMap intB = l2 := ⟨_, rfl⟩
      rw [hl2] at HX
      have HL2 := hide_ hl2
      clear hl2 hx hbw
      generalize l1 ++ (f.take k).flatMap intB = la at HX HLN HK
      go_wp2_with fail
      refine (PutInt_any [] (intB x) x wr.heap.size none 0 0 _ rfl rfl HI.out.1 HI.out.2 (Sees.empty _ _ _) (Nat.le_refl _) (by simp)).mono ?_
      rintro en w3 ⟨A3, c3, rfl, hown3, hb3⟩
      have HB3 := hide_ hb3
      have HO3 := hide_ hown3
      clear hb3 hown3
      go_wp2_with (at_builtin; refine wpList_append_row _ rfl _ _ 52 rfl base u8_info Tryz.underlying52 _ la (intB x) l2 HX.out.symm rfl (own_below HK.out.own HB3.out) w3.heap.size A3 (intB x).length c3 rfl rfl (Sees.own HO3.out) ⟨by have := HLN.out; omega, by have := HXL.out; omega⟩ (by have := HB3.out.size; omega) ?_; intro A4 c4 w4 hst4; have HST4 := hide_ (HK.out.trans (RowStep.fresh HB3.out hst4)); clear hst4)
      go_roundw
      case rel => exact ⟨k + 1, by omega, by go_num, hide_ (by rw [HL2.out]; exact HST4.out)⟩
      case measure => simp [intOf]; omega
    · obtain rfl : k = n := by omega
      have HK2 := hide_ (HR.out ▸ HK.out)
      clear HK
      obtain ⟨A3, c3, hA3⟩ := own_slice HK2.out.own
      subst hA3
      go_wp2
      go_ret
      exact ⟨_, _, rfl, HK2.out⟩
end Go.Proofs.YtkgnondlcaklnaaGreat
