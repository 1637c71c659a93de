/-
  Texts of this claim put together: Msg1.
-/
import Derived.Test.YtkgnondlcaklnaaGreatJ21
import Derived.Test.YtkgnondlcaklnaaGreatJ36
import Derived.Test.YtkgnondlcaklnaaGreatJ22
/-
  Messages: their parts; which may be: contracts of msg's May and of what it calls.
-/
namespace Go.Proofs.YtkgnondlcaklnaaGreat
open Go.RowKit

/-- a message in memory -/
structure MsgM where
  ki : Nat
  fr : Nat
  tt : Nat
  ke : Nat
  co : Nat
  bc : Nat
  bn : Nat
  bl : Nat
  ok : Bool
  ac : Nat
  an : Nat
  al : Nat
  r : RegM
  nc : Nat
  nn : Nat
  nl : Nat
  mx : Nat
/-- a message -/
structure MsgP where
  ki : Nat
  fr : Nat
  tt : Nat
  ke : Nat
  co : Nat
  bc : Nat
  bn : Nat
  bl : Nat
  ok : Bool
  ac : Nat
  an : Nat
  al : Nat
  r : RegP
  nc : Nat
  nn : Nat
  nl : Nat
  mx : Nat
deriving DecidableEq
def MsgM.p (m : MsgM) : MsgP := ⟨m.ki, m.fr, m.tt, m.ke, m.co, m.bc, m.bn, m.bl, m.ok, m.ac, m.an, m.al, m.r.p, m.nc, m.nn, m.nl, m.mx⟩
def MsgM.box (m : MsgM) : Array Value := #[.int .u8 m.ki, .int .u8 m.fr, .int .u8 m.tt, .int .u8 m.ke, .int .u64 m.co, .int .u64 m.bc, .int .u8 m.bn, .int .u32 m.bl, .bool m.ok, .int .u64 m.ac, .int .u8 m.an, .int .u32 m.al,
  .int .u8 m.r.ki, .int .u64 m.r.inc, .int .i64 m.r.st, .slice m.r.va.A m.r.va.l.length m.r.va.c, .slice m.r.dn.A m.r.dn.l.length m.r.dn.c, .slice m.r.ou.A m.r.ou.l.length m.r.ou.c, .int .u64 m.r.la, .slice m.r.ma.A m.r.ma.l.length m.r.ma.c,
  .int .u64 m.nc, .int .u8 m.nn, .int .u32 m.nl, .int .u64 m.mx]
def MsgM.v (m : MsgM) : Value := .agg m.box
def N64 (n : Nat) : Prop := n < 18446744073709551616
def BalIn (c n l : Nat) : Prop := N64 c ∧ n ≤ 255 ∧ l ≤ 4294967295
def MsgM.ok' (m : MsgM) : Prop := (m.ki ≤ 255 ∧ m.fr ≤ 255 ∧ m.tt ≤ 255 ∧ m.ke ≤ 255) ∧ (N64 m.co ∧ N64 m.mx) ∧ BalIn m.bc m.bn m.bl ∧ BalIn m.ac m.an m.al ∧ BalIn m.nc m.nn m.nl
def MsgM.good (w : World) (B : Nat) (m : MsgM) : Prop := m.ok' ∧ RegM.ok w B m.r
theorem msg_stable : Stable MsgM.good := fun w w' B B' x h hk hB => ⟨h.1, reg_stable w w' B B' x.r h.2 hk hB⟩
theorem msg_local : Local MsgM.good (fun m => RegM.ft m.r) := fun w w' B B' x h hk hB => ⟨h.1, reg_local w w' B B' x.r h.2 hk hB⟩
def zeroMsg : MsgM := ⟨0, 0, 0, 0, 0, 0, 0, 0, false, 0, 0, 0, zeroM, 0, 0, 0, 0⟩
theorem zeroMsg_good (w : World) (B : Nat) : MsgM.good w B zeroMsg := ⟨by simp [MsgM.ok', BalIn, N64, zeroMsg], zeroM_ok w B⟩

def noneB (c n l : Nat) : Bool := decide (c = 0) && (decide (n = 0) && decide (l = 0))
theorem noneB_true {c n l : Nat} : noneB c n l = true ↔ c = 0 ∧ n = 0 ∧ l = 0 := by simp [noneB]
def hasB (p : MsgP) : Bool := noneB p.ac p.an p.al && decide (p.r = zeroP)
def promB (p : MsgP) : Bool := if p.ok then (decide (p.r.ki = 0) || !noneB p.ac p.an p.al) && (mayG p.r && decide (p.mx = 0)) else hasB p
def nextB (p : MsgP) : Bool := noneB p.nc p.nn p.nl || (decide (p.nn = p.bn) && (decide (p.nl = p.bl) && decide (p.bc < p.nc)))
def tellB (p : MsgP) : Bool :=
  if p.ki = 1 then !p.ok && (hasB p && (noneB p.nc p.nn p.nl && decide (p.mx = 0)))
  else if p.ki = 2 then promB p && noneB p.nc p.nn p.nl
  else if p.ki = 3 then !p.ok && (noneB p.ac p.an p.al && (mayG p.r && (nextB p && decide (p.mx = 0))))
  else if p.ki = 4 then hasB p && (noneB p.nc p.nn p.nl && (!p.ok || decide (p.mx = 0)))
  else false
def mayM (p : MsgP) : Bool := decide (p.fr < 64) && (decide (p.tt < 64) && (decide (p.ke < 16) && (!noneB p.bc p.bn p.bl && tellB p)))

theorem None_any (c n l : Nat) (w : World) : Calls Tryz.prog 44 #[.agg #[.int .u64 c, .int .u8 n, .int .u32 l]] w fun e w' => e = .returned (.bool (noneB c n l)) ∧ Below w.heap.size w w' := by
  by_cases h : c = 0 ∧ n = 0 ∧ l = 0
  · obtain ⟨rfl, rfl, rfl⟩ := h
    exact None_yes w
  · rw [show noneB c n l = false from by rw [← Bool.not_eq_true, noneB_true]; exact h]
    exact None_no c n l h w


set_option maxRecDepth 100000 in
set_option maxHeartbeats 3200000 in
theorem hasNoReg_any (m : MsgM) (B : Nat) (w : World) (hm : MsgM.good w B m) (hB : B ≤ w.heap.size) : Calls Tryz.prog 86 #[m.v] w fun e w' => e = .returned (.bool (hasB m.p)) ∧ Below w.heap.size w w' := by
  have hw1 : Below w.heap.size w (w.alloc (.cells m.box 51)) := (Below.refl _ _).alloc (Nat.le_refl _) _
  have HW := hide_ hw1
  have HX := hide_ (BoxAt.new w m.box 51)
  have HS := hide_ (fun (u : World) (h : Below w.heap.size w u) => sameReg_any m.r zeroM u.heap.size u (reg_stable.more (reg_stable.below hm.2 (h.mono hB)) (Nat.le_trans hB h.size)) (zeroM_ok _ _) (Nat.le_refl _))
  have HN := hide_ (fun (u : World) (h : Below w.heap.size w u) => None_any m.ac m.an m.al u)
  rw [show hasB m.p = (noneB m.ac m.an m.al && decide (m.r.p = zeroM.p)) from rfl]
  obtain ⟨q1, h1⟩ : ∃ q, noneB m.ac m.an m.al = q := ⟨_, rfl⟩
  obtain ⟨q2, h2⟩ : ∃ q, decide (m.r.p = zeroM.p) = q := ⟨_, rfl⟩
  simp only [h1] at HN ⊢
  simp only [h2] at HS ⊢
  clear hm h1 h2 hw1
  obtain ⟨ki, fr, tt, ke, co, bc, bn, bl, ok, ac, an, al, ⟨rk, inc, st, ⟨vA, vc, vl⟩, ⟨dA, dc, dl⟩, ⟨oA, oc, ol⟩, la, ⟨mA, mc, ml⟩⟩, nc, nn, nl, mx⟩ := m
  simp only [MsgM.v, MsgM.box, RegM.v, Sl.v, zeroM, List.length_nil] at HS HN HW HX ⊢
  go_enter Tryz.func86, Tryz.ntmps86
  go_wp2_with fail
  refine (HN.out _ HW.out).mono ?_
  rintro en w1 ⟨rfl, hb1⟩
  have HB1 := hide_ (HW.out.trans (hb1.mono HW.out.size))
  have HX1 := hide_ (HX.out.below hb1)
  clear hb1
  have hz1 : w.heap.size < w1.heap.size := HX1.out.lt
  have hcx := HX1.out.cell
  cases q1 with
  | false =>
    go_wp2
    go_ret
    exact ⟨rfl, HB1.out⟩
  | true =>
  go_wp2_with fail
  refine (HS.out _ HB1.out).mono ?_
  rintro en w2 ⟨rfl, hb2⟩
  have HB2 := hide_ (HB1.out.trans (hb2.mono HB1.out.size))
  clear hb2 hcx hz1
  go_wp2
  go_ret
  exact ⟨rfl, HB2.out⟩


set_option maxRecDepth 100000 in
set_option maxHeartbeats 3200000 in
theorem mayPromise_any (m : MsgM) (B : Nat) (w : World) (hm : MsgM.good w B m) (hB : B ≤ w.heap.size) : Calls Tryz.prog 87 #[m.v] w fun e w' => e = .returned (.bool (promB m.p)) ∧ Below w.heap.size w w' := by
  have hw1 : Below w.heap.size w (w.alloc (.cells m.box 51)) := (Below.refl _ _).alloc (Nat.le_refl _) _
  have HW := hide_ hw1
  have HX := hide_ (BoxAt.new w m.box 51)
  have HH := hide_ (fun (u : World) (h : Below w.heap.size w u) => hasNoReg_any m w.heap.size u (msg_stable.below ⟨hm.1, reg_stable.more hm.2 hB⟩ h) h.size)
  have HM := hide_ (fun (u : World) (h : Below w.heap.size w u) => mayReg_any m.r w.heap.size u (reg_stable.below (reg_stable.more hm.2 hB) h) h.size)
  have HN := hide_ (fun (u : World) (h : Below w.heap.size w u) => None_any m.ac m.an m.al u)
  rw [show promB m.p = (if m.ok then (decide (m.r.ki = 0) || !noneB m.ac m.an m.al) && (mayG m.r.p && decide (m.mx = 0)) else hasB m.p) from rfl]
  obtain ⟨q1, h1⟩ : ∃ q, noneB m.ac m.an m.al = q := ⟨_, rfl⟩
  obtain ⟨q2, h2⟩ : ∃ q, mayG m.r.p = q := ⟨_, rfl⟩
  obtain ⟨q3, h3⟩ : ∃ q, hasB m.p = q := ⟨_, rfl⟩
  simp only [h1] at HN ⊢
  simp only [h2] at HM ⊢
  simp only [h3] at HH ⊢
  clear hm h1 h2 h3 hw1
  obtain ⟨ki, fr, tt, ke, co, bc, bn, bl, ok, ac, an, al, ⟨rk, inc, st, ⟨vA, vc, vl⟩, ⟨dA, dc, dl⟩, ⟨oA, oc, ol⟩, la, ⟨mA, mc, ml⟩⟩, nc, nn, nl, mx⟩ := m
  simp only [MsgM.v, MsgM.box, RegM.v, Sl.v] at HH HM HN HW HX ⊢
  cases ok with
  | false =>
    go_enter Tryz.func87, Tryz.ntmps87
    go_wp2_with (refine ld_msg rfl _ rfl HX.out rfl rfl ?_)
    refine (HH.out _ HW.out).mono ?_
    rintro en w1 ⟨rfl, hb1⟩
    have HB1 := hide_ (HW.out.trans (hb1.mono HW.out.size))
    clear hb1
    go_wp2
    go_ret
    exact ⟨rfl, HB1.out⟩
  | true =>
  simp only [if_true]
  have tail : ∀ (u : World) (b : Bool), Below w.heap.size w u → True := fun _ _ _ => trivial
  clear tail
  by_cases c0 : rk = 0
  · subst c0
    simp only [decide_true, Bool.true_or, Bool.true_and]
    go_enter Tryz.func87, Tryz.ntmps87
    go_wp2_with fail
    refine (HM.out _ HW.out).mono ?_
    rintro en w1 ⟨rfl, hb1⟩
    have HB1 := hide_ (HW.out.trans (hb1.mono HW.out.size))
    have HX1 := hide_ (HX.out.below hb1)
    clear hb1
    have hz1 : w.heap.size < w1.heap.size := HX1.out.lt
    have hcx := HX1.out.cell
    cases q2 with
    | false =>
      go_wp2
      go_ret
      exact ⟨rfl, HB1.out⟩
    | true =>
    by_cases c1 : mx = 0
    · subst c1
      go_wp2
      go_ret
      exact ⟨by simp, HB1.out⟩
    · have hd : ((mx : Int) == 0) = false := beq_eq_false_iff_ne.2 (by omega)
      have HE := hide_ (decide_eq_false c1)
      clear c1
      go_wp2
      go_ret
      exact ⟨by rw [HE.out]; rfl, HB1.out⟩
  have hd0 : (rk == 0) = false := beq_eq_false_iff_ne.2 c0
  rw [decide_eq_false c0, Bool.false_or]
  clear c0
  go_enter Tryz.func87, Tryz.ntmps87
  go_wp2_with fail
  refine (HN.out _ HW.out).mono ?_
  rintro en w1 ⟨rfl, hb1⟩
  have HB1 := hide_ (HW.out.trans (hb1.mono HW.out.size))
  have HX1 := hide_ (HX.out.below hb1)
  clear hb1
  have hz1 : w.heap.size < w1.heap.size := HX1.out.lt
  have hcx := HX1.out.cell
  cases q1 with
  | true =>
    go_wp2
    go_ret
    exact ⟨rfl, HB1.out⟩
  | false =>
  go_wp2_with fail
  refine (HM.out _ HB1.out).mono ?_
  rintro en w2 ⟨rfl, hb2⟩
  have HB2 := hide_ (HB1.out.trans (hb2.mono HB1.out.size))
  have HX2 := hide_ (HX1.out.below hb2)
  clear hb2 hcx hz1
  have hz2 : w.heap.size < w2.heap.size := HX2.out.lt
  have hcx := HX2.out.cell
  cases q2 with
  | false =>
    go_wp2
    go_ret
    exact ⟨rfl, HB2.out⟩
  | true =>
  by_cases c1 : mx = 0
  · subst c1
    go_wp2
    go_ret
    exact ⟨by simp, HB2.out⟩
  · have hd : ((mx : Int) == 0) = false := beq_eq_false_iff_ne.2 (by omega)
    have HE := hide_ (decide_eq_false c1)
    clear c1
    go_wp2
    go_ret
    exact ⟨by rw [HE.out]; rfl, HB2.out⟩


theorem cmp_count {c c' n l : Nat} : decide ((0 : Int) < cmpB c n l c' n l) = decide (c' < c) := by
  rw [cmpB_less]
  by_cases h : c = c'
  · subst h
    simp [lessB]
  · by_cases h2 : c < c'
    · have : ¬ c' < c := by omega
      simp [lessB, h, h2, this]
    · have h3 : c' < c := by omega
      simp [lessB, h, h2, h3, Ne.symm h]


set_option maxRecDepth 100000 in
set_option maxHeartbeats 3200000 in
theorem mayNext_any (m : MsgM) (B : Nat) (w : World) (_ : MsgM.good w B m) (_ : B ≤ w.heap.size) : Calls Tryz.prog 88 #[m.v] w fun e w' => e = .returned (.bool (nextB m.p)) ∧ Below w.heap.size w w' := by
  have hw1 : Below w.heap.size w (w.alloc (.cells m.box 51)) := (Below.refl _ _).alloc (Nat.le_refl _) _
  have HW := hide_ hw1
  have HX := hide_ (BoxAt.new w m.box 51)
  have HN := hide_ (fun (u : World) (h : Below w.heap.size w u) => None_any m.nc m.nn m.nl u)
  have HC := hide_ (fun (u : World) (h : Below w.heap.size w u) => Compare_any m.nc m.nn m.nl m.bc m.bn m.bl u)
  rw [show nextB m.p = (noneB m.nc m.nn m.nl || (decide (m.nn = m.bn) && (decide (m.nl = m.bl) && decide (m.bc < m.nc)))) from rfl]
  obtain ⟨q1, h1⟩ : ∃ q, noneB m.nc m.nn m.nl = q := ⟨_, rfl⟩
  simp only [h1] at HN ⊢
  clear h1 hw1
  obtain ⟨ki, fr, tt, ke, co, bc, bn, bl, ok, ac, an, al, ⟨rk, inc, st, ⟨vA, vc, vl⟩, ⟨dA, dc, dl⟩, ⟨oA, oc, ol⟩, la, ⟨mA, mc, ml⟩⟩, nc, nn, nl, mx⟩ := m
  simp only [MsgM.v, MsgM.box] at HC HN HW HX ⊢
  go_enter Tryz.func88, Tryz.ntmps88
  go_wp2_with fail
  refine (HN.out _ HW.out).mono ?_
  rintro en w1 ⟨rfl, hb1⟩
  have HB1 := hide_ (HW.out.trans (hb1.mono HW.out.size))
  have HX1 := hide_ (HX.out.below hb1)
  clear hb1
  have hz1 : w.heap.size < w1.heap.size := HX1.out.lt
  have hcx := HX1.out.cell
  cases q1 with
  | true =>
    go_wp2
    go_ret
    exact ⟨rfl, HB1.out⟩
  | false =>
  by_cases c1 : nn = bn
  case neg =>
    have hd : ((nn : Int) == bn) = false := beq_eq_false_iff_ne.2 (by omega)
    have HE := hide_ (decide_eq_false c1)
    clear c1
    go_wp2
    go_ret
    exact ⟨by rw [HE.out]; rfl, HB1.out⟩
  subst c1
  by_cases c2 : nl = bl
  case neg =>
    have hd : ((nl : Int) == bl) = false := beq_eq_false_iff_ne.2 (by omega)
    have HE := hide_ (decide_eq_false c2)
    clear c2
    go_wp2
    go_ret
    exact ⟨by rw [HE.out]; simp, HB1.out⟩
  subst c2
  have HCC := hide_ (@cmp_count nc bc nn nl)
  obtain ⟨cq, hcq⟩ : ∃ q, cmpB nc nn nl bc nn nl = q := ⟨_, rfl⟩
  simp only [hcq] at HC HCC
  clear hcq
  go_wp2_with fail
  refine (HC.out _ HB1.out).mono ?_
  rintro en w2 ⟨rfl, hb2⟩
  have HB2 := hide_ (HB1.out.trans (hb2.mono HB1.out.size))
  clear hb2 hcx hz1
  go_wp2
  go_ret
  exact ⟨by rw [HCC.out]; simp, HB2.out⟩


set_option maxRecDepth 100000 in
set_option maxHeartbeats 3200000 in
theorem mayTell_any (m : MsgM) (B : Nat) (w : World) (hm : MsgM.good w B m) (hB : B ≤ w.heap.size) : Calls Tryz.prog 45 #[m.v] w fun e w' => e = .returned (.bool (tellB m.p)) ∧ Below w.heap.size w w' := by
  have hw1 : Below w.heap.size w (w.alloc (.cells m.box 51)) := (Below.refl _ _).alloc (Nat.le_refl _) _
  have HW := hide_ hw1
  have HX := hide_ (BoxAt.new w m.box 51)
  have HH := hide_ (fun (u : World) (h : Below w.heap.size w u) => hasNoReg_any m w.heap.size u (msg_stable.below ⟨hm.1, reg_stable.more hm.2 hB⟩ h) h.size)
  have HPR := hide_ (fun (u : World) (h : Below w.heap.size w u) => mayPromise_any m w.heap.size u (msg_stable.below ⟨hm.1, reg_stable.more hm.2 hB⟩ h) h.size)
  have HNX := hide_ (fun (u : World) (h : Below w.heap.size w u) => mayNext_any m w.heap.size u (msg_stable.below ⟨hm.1, reg_stable.more hm.2 hB⟩ h) h.size)
  have HM := hide_ (fun (u : World) (h : Below w.heap.size w u) => mayReg_any m.r w.heap.size u (reg_stable.below (reg_stable.more hm.2 hB) h) h.size)
  have HN := hide_ (fun (u : World) (h : Below w.heap.size w u) => None_any m.ac m.an m.al u)
  have HNN := hide_ (fun (u : World) (h : Below w.heap.size w u) => None_any m.nc m.nn m.nl u)
  rw [show tellB m.p = (if m.ki = 1 then !m.ok && (hasB m.p && (noneB m.nc m.nn m.nl && decide (m.mx = 0)))
    else if m.ki = 2 then promB m.p && noneB m.nc m.nn m.nl
    else if m.ki = 3 then !m.ok && (noneB m.ac m.an m.al && (mayG m.r.p && (nextB m.p && decide (m.mx = 0))))
    else if m.ki = 4 then hasB m.p && (noneB m.nc m.nn m.nl && (!m.ok || decide (m.mx = 0)))
    else false) from rfl]
  obtain ⟨q1, h1⟩ : ∃ q, noneB m.ac m.an m.al = q := ⟨_, rfl⟩
  obtain ⟨q2, h2⟩ : ∃ q, mayG m.r.p = q := ⟨_, rfl⟩
  obtain ⟨q3, h3⟩ : ∃ q, hasB m.p = q := ⟨_, rfl⟩
  obtain ⟨q4, h4⟩ : ∃ q, promB m.p = q := ⟨_, rfl⟩
  obtain ⟨q5, h5⟩ : ∃ q, nextB m.p = q := ⟨_, rfl⟩
  obtain ⟨q6, h6⟩ : ∃ q, noneB m.nc m.nn m.nl = q := ⟨_, rfl⟩
  simp only [h1] at HN ⊢
  simp only [h2] at HM ⊢
  simp only [h3] at HH ⊢
  simp only [h4] at HPR ⊢
  simp only [h5] at HNX ⊢
  simp only [h6] at HNN ⊢
  clear hm h1 h2 h3 h4 h5 h6 hw1
  obtain ⟨ki, fr, tt, ke, co, bc, bn, bl, ok, ac, an, al, ⟨rk, inc, st, ⟨vA, vc, vl⟩, ⟨dA, dc, dl⟩, ⟨oA, oc, ol⟩, la, ⟨mA, mc, ml⟩⟩, nc, nn, nl, mx⟩ := m
  simp only [MsgM.v, MsgM.box, RegM.v, Sl.v] at HH HM HN HNN HPR HNX HW HX ⊢
  by_cases k1 : ki = 1
  · subst k1
    rw [if_pos rfl]
    cases ok with
    | true =>
      go_enter Tryz.func45, Tryz.ntmps45
      go_wp2
      go_ret
      exact ⟨rfl, HW.out⟩
    | false =>
    go_enter Tryz.func45, Tryz.ntmps45
    go_wp2_with (refine ld_msg rfl _ rfl HX.out rfl rfl ?_)
    refine (HH.out _ HW.out).mono ?_
    rintro en w1 ⟨rfl, hb1⟩
    have HB1 := hide_ (HW.out.trans (hb1.mono HW.out.size))
    have HX1 := hide_ (HX.out.below hb1)
    clear hb1
    have hz1 : w.heap.size < w1.heap.size := HX1.out.lt
    have hcx := HX1.out.cell
    cases q3 with
    | false =>
      go_wp2
      go_ret
      exact ⟨by simp, HB1.out⟩
    | true =>
    go_wp2_with fail
    refine (HNN.out _ HB1.out).mono ?_
    rintro en w2 ⟨rfl, hb2⟩
    have HB2 := hide_ (HB1.out.trans (hb2.mono HB1.out.size))
    have HX2 := hide_ (HX1.out.below hb2)
    clear hb2 hcx hz1
    have hz2 : w.heap.size < w2.heap.size := HX2.out.lt
    have hcx := HX2.out.cell
    cases q6 with
    | false =>
      go_wp2
      go_ret
      exact ⟨by simp, HB2.out⟩
    | true =>
    by_cases c1 : mx = 0
    · subst c1
      go_wp2
      go_ret
      exact ⟨by simp, HB2.out⟩
    · have hd : ((mx : Int) == 0) = false := beq_eq_false_iff_ne.2 (by omega)
      have HE := hide_ (decide_eq_false c1)
      clear c1
      go_wp2
      go_ret
      exact ⟨by rw [HE.out]; simp, HB2.out⟩
  rw [if_neg k1]
  have k1' : ((ki : Int) == 1) = false := beq_eq_false_iff_ne.2 (by omega)
  by_cases k2 : ki = 2
  · subst k2
    rw [if_pos rfl]
    clear k1 k1'
    go_enter Tryz.func45, Tryz.ntmps45
    go_wp2_with (refine ld_msg rfl _ rfl HX.out rfl rfl ?_)
    refine (HPR.out _ HW.out).mono ?_
    rintro en w1 ⟨rfl, hb1⟩
    have HB1 := hide_ (HW.out.trans (hb1.mono HW.out.size))
    have HX1 := hide_ (HX.out.below hb1)
    clear hb1
    have hz1 : w.heap.size < w1.heap.size := HX1.out.lt
    have hcx := HX1.out.cell
    cases q4 with
    | false =>
      go_wp2
      go_ret
      exact ⟨by simp, HB1.out⟩
    | true =>
    go_wp2_with fail
    refine (HNN.out _ HB1.out).mono ?_
    rintro en w2 ⟨rfl, hb2⟩
    have HB2 := hide_ (HB1.out.trans (hb2.mono HB1.out.size))
    clear hb2 hcx hz1
    go_wp2
    go_ret
    exact ⟨by simp, HB2.out⟩
  rw [if_neg k2]
  have k2' : ((ki : Int) == 2) = false := beq_eq_false_iff_ne.2 (by omega)
  by_cases k3 : ki = 3
  · subst k3
    rw [if_pos rfl]
    clear k1 k1' k2 k2'
    cases ok with
    | true =>
      go_enter Tryz.func45, Tryz.ntmps45
      go_wp2
      go_ret
      exact ⟨rfl, HW.out⟩
    | false =>
    go_enter Tryz.func45, Tryz.ntmps45
    go_wp2_with fail
    refine (HN.out _ HW.out).mono ?_
    rintro en w1 ⟨rfl, hb1⟩
    have HB1 := hide_ (HW.out.trans (hb1.mono HW.out.size))
    have HX1 := hide_ (HX.out.below hb1)
    clear hb1
    have hz1 : w.heap.size < w1.heap.size := HX1.out.lt
    have hcx := HX1.out.cell
    cases q1 with
    | false =>
      go_wp2
      go_ret
      exact ⟨by simp, HB1.out⟩
    | true =>
    go_wp2_with fail
    refine (HM.out _ HB1.out).mono ?_
    rintro en w2 ⟨rfl, hb2⟩
    have HB2 := hide_ (HB1.out.trans (hb2.mono HB1.out.size))
    have HX2 := hide_ (HX1.out.below hb2)
    clear hb2 hcx hz1
    have hz2 : w.heap.size < w2.heap.size := HX2.out.lt
    have hcx := HX2.out.cell
    cases q2 with
    | false =>
      go_wp2
      go_ret
      exact ⟨by simp, HB2.out⟩
    | true =>
    go_wp2_with (refine ld_msg rfl _ rfl HX2.out rfl rfl ?_)
    refine (HNX.out _ HB2.out).mono ?_
    rintro en w3 ⟨rfl, hb3⟩
    have HB3 := hide_ (HB2.out.trans (hb3.mono HB2.out.size))
    have HX3 := hide_ (HX2.out.below hb3)
    clear hb3 hcx hz2
    have hz3 : w.heap.size < w3.heap.size := HX3.out.lt
    have hcx := HX3.out.cell
    cases q5 with
    | false =>
      go_wp2
      go_ret
      exact ⟨by simp, HB3.out⟩
    | true =>
    by_cases c1 : mx = 0
    · subst c1
      go_wp2
      go_ret
      exact ⟨by simp, HB3.out⟩
    · have hd : ((mx : Int) == 0) = false := beq_eq_false_iff_ne.2 (by omega)
      have HE := hide_ (decide_eq_false c1)
      clear c1
      go_wp2
      go_ret
      exact ⟨by rw [HE.out]; simp, HB3.out⟩
  rw [if_neg k3]
  have k3' : ((ki : Int) == 3) = false := beq_eq_false_iff_ne.2 (by omega)
  by_cases k4 : ki = 4
  · subst k4
    rw [if_pos rfl]
    clear k1 k1' k2 k2' k3 k3'
    go_enter Tryz.func45, Tryz.ntmps45
    go_wp2_with (refine ld_msg rfl _ rfl HX.out rfl rfl ?_)
    refine (HH.out _ HW.out).mono ?_
    rintro en w1 ⟨rfl, hb1⟩
    have HB1 := hide_ (HW.out.trans (hb1.mono HW.out.size))
    have HX1 := hide_ (HX.out.below hb1)
    clear hb1
    have hz1 : w.heap.size < w1.heap.size := HX1.out.lt
    have hcx := HX1.out.cell
    cases q3 with
    | false =>
      go_wp2
      go_ret
      exact ⟨by simp, HB1.out⟩
    | true =>
    go_wp2_with fail
    refine (HNN.out _ HB1.out).mono ?_
    rintro en w2 ⟨rfl, hb2⟩
    have HB2 := hide_ (HB1.out.trans (hb2.mono HB1.out.size))
    have HX2 := hide_ (HX1.out.below hb2)
    clear hb2 hcx hz1
    have hz2 : w.heap.size < w2.heap.size := HX2.out.lt
    have hcx := HX2.out.cell
    cases q6 with
    | false =>
      go_wp2
      go_ret
      exact ⟨by simp, HB2.out⟩
    | true =>
    cases ok with
    | false =>
      go_wp2
      go_ret
      exact ⟨by simp, HB2.out⟩
    | true =>
    by_cases c1 : mx = 0
    · subst c1
      go_wp2
      go_ret
      exact ⟨by simp, HB2.out⟩
    · have hd : ((mx : Int) == 0) = false := beq_eq_false_iff_ne.2 (by omega)
      have HE := hide_ (decide_eq_false c1)
      clear c1
      go_wp2
      go_ret
      exact ⟨by rw [HE.out]; simp, HB2.out⟩
  rw [if_neg k4]
  have k4' : ((ki : Int) == 4) = false := beq_eq_false_iff_ne.2 (by omega)
  clear k1 k2 k3 k4
  go_enter Tryz.func45, Tryz.ntmps45
  go_wp2
  go_ret
  exact ⟨rfl, HW.out⟩


set_option maxRecDepth 100000 in
set_option maxHeartbeats 3200000 in
theorem mayMsg_any (m : MsgM) (B : Nat) (w : World) (hm : MsgM.good w B m) (hB : B ≤ w.heap.size) : Calls Tryz.prog 18 #[m.v] w fun e w' => e = .returned (.bool (mayM m.p)) ∧ Below w.heap.size w w' := by
  have hw1 : Below w.heap.size w (w.alloc (.cells m.box 51)) := (Below.refl _ _).alloc (Nat.le_refl _) _
  have HW := hide_ hw1
  have HX := hide_ (BoxAt.new w m.box 51)
  have HT := hide_ (fun (u : World) (h : Below w.heap.size w u) => mayTell_any m w.heap.size u (msg_stable.below ⟨hm.1, reg_stable.more hm.2 hB⟩ h) h.size)
  have HN := hide_ (fun (u : World) (h : Below w.heap.size w u) => None_any m.bc m.bn m.bl u)
  rw [show mayM m.p = (decide (m.fr < 64) && (decide (m.tt < 64) && (decide (m.ke < 16) && (!noneB m.bc m.bn m.bl && tellB m.p)))) from rfl]
  obtain ⟨q1, h1⟩ : ∃ q, noneB m.bc m.bn m.bl = q := ⟨_, rfl⟩
  obtain ⟨q2, h2⟩ : ∃ q, tellB m.p = q := ⟨_, rfl⟩
  simp only [h1] at HN ⊢
  simp only [h2] at HT ⊢
  clear hm h1 h2 hw1
  obtain ⟨ki, fr, tt, ke, co, bc, bn, bl, ok, ac, an, al, ⟨rk, inc, st, ⟨vA, vc, vl⟩, ⟨dA, dc, dl⟩, ⟨oA, oc, ol⟩, la, ⟨mA, mc, ml⟩⟩, nc, nn, nl, mx⟩ := m
  simp only [MsgM.v, MsgM.box] at HT HN HW HX ⊢
  by_cases c_fr : fr < 64
  case neg =>
    have hd : decide ((fr : Int) < 64) = false := decide_eq_false (by omega)
    have HE := hide_ (decide_eq_false c_fr)
    clear c_fr
    go_enter Tryz.func18, Tryz.ntmps18
    go_wp2
    go_ret
    exact ⟨by rw [HE.out]; simp, HW.out⟩
  have d_fr : decide ((fr : Int) < 64) = true := decide_eq_true (by omega)
  rw [decide_eq_true c_fr, Bool.true_and]
  clear c_fr
  by_cases c_tt : tt < 64
  case neg =>
    have hd : decide ((tt : Int) < 64) = false := decide_eq_false (by omega)
    have HE := hide_ (decide_eq_false c_tt)
    clear c_tt
    go_enter Tryz.func18, Tryz.ntmps18
    go_wp2
    go_ret
    exact ⟨by rw [HE.out]; simp, HW.out⟩
  have d_tt : decide ((tt : Int) < 64) = true := decide_eq_true (by omega)
  rw [decide_eq_true c_tt, Bool.true_and]
  clear c_tt
  by_cases c_ke : ke < 16
  case neg =>
    have hd : decide ((ke : Int) < 16) = false := decide_eq_false (by omega)
    have HE := hide_ (decide_eq_false c_ke)
    clear c_ke
    go_enter Tryz.func18, Tryz.ntmps18
    go_wp2
    go_ret
    exact ⟨by rw [HE.out]; simp, HW.out⟩
  have d_ke : decide ((ke : Int) < 16) = true := decide_eq_true (by omega)
  rw [decide_eq_true c_ke, Bool.true_and]
  clear c_ke
  go_enter Tryz.func18, Tryz.ntmps18
  go_wp2_with fail
  refine (HN.out _ HW.out).mono ?_
  rintro en w1 ⟨rfl, hb1⟩
  have HB1 := hide_ (HW.out.trans (hb1.mono HW.out.size))
  have HX1 := hide_ (HX.out.below hb1)
  clear hb1
  have hz1 : w.heap.size < w1.heap.size := HX1.out.lt
  have hcx := HX1.out.cell
  cases q1 with
  | true =>
    go_wp2
    go_ret
    exact ⟨rfl, HB1.out⟩
  | false =>
  go_wp2_with (refine ld_msg rfl _ rfl HX1.out rfl rfl ?_)
  refine (HT.out _ HB1.out).mono ?_
  rintro en w2 ⟨rfl, hb2⟩
  have HB2 := hide_ (HB1.out.trans (hb2.mono HB1.out.size))
  clear hb2 hcx hz1
  go_wp2
  go_ret
  exact ⟨by simp, HB2.out⟩
end Go.Proofs.YtkgnondlcaklnaaGreat
