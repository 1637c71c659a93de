/-
  Texts of this claim put together: Clo14, Fol14, Fol14b, Law14, Rb14, Gr14.
-/
import Derived.Test.YtnkjdijbfnmnhaaGreatJ49
import Derived.Test.YtnkjdijbfnmnhaaGreatJ12
import Derived.Test.YtnkjdijbfnmnhaaGreatShort
import Derived.Deep.RegionHeld
import Derived.Test.YtnkjdijbfnmnhaaGreatJ48
import Derived.Test.YtnkjdijbfnmnhaaGreatJ46
import Derived.Test.YtnkjdijbfnmnhaaGreatJ47
import Derived.Test.YtnkjdijbfnmnhaaGreatJ41
import Derived.Test.YtnkjdijbfnmnhaaGreatJ24
import Derived.Deep.DeepCutAuto
/-
  Contracts of record's cloneConf and clone.
-/
namespace Go.Proofs.YtnkjdijbfnmnhaaGreat
open Go.RowKit

theorem setR_p (s : StaM) {i : Nat} {r : RegM} (h : r.p = (s.f i).r.p) : (s.setR i r).p = s.p := by
  unfold StaM.setR StaM.setF StaM.p
  simp only
  congr 1
  funext j
  by_cases e : j = i
  · subst e
    rw [if_pos rfl]
    unfold SlotM.p
    simp only [h]
  · rw [if_neg e]

end Go.Proofs.YtnkjdijbfnmnhaaGreat
/-
  What is known behind a record: contracts of the document's Fold and of record's.
-/
namespace Go.Proofs.YtnkjdijbfnmnhaaGreat
open Go.RowKit

def slotOf (m : RecM) : SlotM := ⟨true, m.pc, m.pn, m.pl, m.ac, m.an, m.al, m.r⟩
def slotOfP (p : RecP) : SlotP := ⟨true, p.pc, p.pn, p.pl, p.ac, p.an, p.al, p.r⟩
def StaP.setF (s : StaP) (i : Nat) (x : SlotP) : StaP := { s with f := fun j => if j = i then x else s.f j }
def doP (s : StaP) (p : RecP) : StaP :=
  if p.ki = 1 then s.setF p.ke (slotOfP p)
  else if p.ki = 2 then s.setF p.ke zeroSP
  else if p.ki = 3 then { s with fe := max s.fe p.fe }
  else if p.ki = 4 then { s with li := p.li }
  else if p.ki = 5 then { s with cf := p.cf }
  else s
def foldP (s : StaP) (p : RecP) : StaP := if mayR p = true then doP s p else s
def doM (s : StaM) (m : RecM) : StaM :=
  if m.ki = 1 then s.setF m.ke (slotOf m)
  else if m.ki = 2 then s.setF m.ke zeroSl
  else if m.ki = 3 then { s with fe := max s.fe m.fe }
  else if m.ki = 4 then { s with li := m.li }
  else if m.ki = 5 then { s with cf := m.cf }
  else s
def foldM (s : StaM) (m : RecM) : StaM := if mayR m.p = true then doM s m else s
theorem setF_p (s : StaM) (i : Nat) (x : SlotM) : (s.setF i x).p = s.p.setF i x.p := by
  unfold StaM.setF StaP.setF StaM.p
  simp only
  congr 1
  funext j
  split <;> rfl
theorem doM_p (s : StaM) (m : RecM) : (doM s m).p = doP s.p m.p := by
  unfold doM doP
  show _ = if m.ki = 1 then _ else if m.ki = 2 then _ else if m.ki = 3 then _ else if m.ki = 4 then _ else if m.ki = 5 then _ else _
  split
  · exact setF_p _ _ _
  split
  · exact setF_p _ _ _
  split
  · rfl
  split
  · rfl
  split <;> rfl
theorem foldM_p (s : StaM) (m : RecM) : (foldM s m).p = foldP s.p m.p := by
  unfold foldM foldP
  split
  · exact doM_p s m
  · rfl
/-- which records may be, by their kinds -/
theorem mayR_kind {p : RecP} (h : mayR p = true) : p.ki = 1 ∨ p.ki = 2 ∨ p.ki = 3 ∨ p.ki = 4 ∨ p.ki = 5 := by
  unfold mayR tellR at h
  rw [Bool.and_eq_true] at h
  by_cases k1 : p.ki = 1
  · exact .inl k1
  by_cases k2 : p.ki = 2
  · exact .inr (.inl k2)
  by_cases k3 : p.ki = 3
  · exact .inr (.inr (.inl k3))
  by_cases k4 : p.ki = 4
  · exact .inr (.inr (.inr (.inl k4)))
  by_cases k5 : p.ki = 5
  · exact .inr (.inr (.inr (.inr k5)))
  rw [if_neg k1, if_neg k2, if_neg k3, if_neg k4, if_neg k5] at h
  exact absurd h.2 (by decide)
theorem mayR_key {p : RecP} (h : mayR p = true) (hk : p.ki = 1 ∨ p.ki = 2) : p.ke < 16 := by
  unfold mayR tellR at h
  rw [Bool.and_eq_true] at h
  rcases hk with hk | hk
  · rw [if_pos hk, Bool.and_eq_true] at h
    exact of_decide_eq_true h.2.1
  · rw [if_neg (by omega), if_pos hk] at h
    exact of_decide_eq_true h.2

structure RecM.tame (w : World) (B : Nat) (m : RecM) : Prop where
  g : RecM.good w B m
  f : m.r.few
/-- what is known behind it may be read where both may be -/
theorem foldM_aside {w : World} {row : Option Nat} {s : StaM} {m : RecM} (hs : SAside w row s) (h1 : m.ok') (hf : m.r.few) (hr : RAside w row m.r) (hc : CAside w row m.cf) : SAside w row (foldM s m) := fun u hu => by
  have g := hs u hu
  obtain ⟨hk, hp, ha, hfe, hli⟩ := h1
  unfold foldM
  split
  · unfold doM
    split
    · refine ⟨fun i hi => ?_, g.fe, g.li, g.cf⟩
      by_cases e : i = m.ke
      · rw [show (s.setF m.ke (slotOf m)).f i = slotOf m from if_pos e]
        exact ⟨⟨⟨hp, ha⟩, hr u hu⟩, hf⟩
      · rw [show (s.setF m.ke (slotOf m)).f i = s.f i from if_neg e]
        exact g.sl i hi
    split
    · refine ⟨fun i hi => ?_, g.fe, g.li, g.cf⟩
      by_cases e : i = m.ke
      · rw [show (s.setF m.ke zeroSl).f i = zeroSl from if_pos e]
        exact (zeroSt_good u u.heap.size).sl i hi
      · rw [show (s.setF m.ke zeroSl).f i = s.f i from if_neg e]
        exact g.sl i hi
    split
    · refine ⟨g.sl, ?_, g.li, g.cf⟩
      have := g.fe
      unfold N64 at *
      show max s.fe m.fe < _
      omega
    split
    · exact ⟨g.sl, g.fe, hli, g.cf⟩
    split
    · exact ⟨g.sl, g.fe, g.li, hc u hu⟩
    · exact g
  · exact g

end Go.Proofs.YtnkjdijbfnmnhaaGreat
/-
  What is known behind a record: contract of record's Fold.
-/
namespace Go.Proofs.YtnkjdijbfnmnhaaGreat
open Go.RowKit

theorem few_eq {x r : RegM} (h : x.p = r.p) (hf : r.few) : x.few := by
  unfold RegM.p at h
  simp only [RegP.mk.injEq] at h
  obtain ⟨_, _, _, e1, e2, e3, _, e4⟩ := h
  refine ⟨⟨by rw [e1]; exact hf.1.1, ?_, by rw [e3]; exact hf.1.2.2.1, by rw [e4]; exact hf.1.2.2.2⟩, fun d hd => ?_⟩
  · have := congrArg List.length e2
    simp only [List.length_map] at this
    rw [this]
    exact hf.1.2.1
  · have hm : d.p ∈ r.dn.l.map DoneM.p := by rw [← e2]; exact List.mem_map_of_mem hd
    obtain ⟨d0, hd0, he⟩ := List.mem_map.1 hm
    have := hf.2 d0 hd0
    have e5 : d0.va.l = d.va.l := by
      unfold DoneM.p at he
      simp only [Prod.mk.injEq] at he
      exact he.2.2.2.2.2
    rw [← e5]
    exact this
theorem few_zero : zeroM.few := by simp [RegM.few, zeroM]
theorem fresh_zero (w : World) (lo : Nat) : Fresh w lo zeroM :=
  ⟨(zeroM_ok w 0).1, ⟨World.ownsRow_nil _ _ _ _, by simp [zeroM]⟩, World.ownsRow_nil _ _ _ _, by simp [zeroM], World.ownsRow_nil _ _ _ _, by simp [zeroM], World.ownsRow_nil _ _ _ _, by simp [zeroM]⟩
/-- a slot in new memory is others' -/
theorem StaM.fresh.setF {w : World} {lo : Nat} {s : StaM} (h : StaM.fresh w lo s) (i : Nat) (x : SlotM) (h1 : x.num) (h2 : Fresh w lo x.r) (h3 : x.r.few) : StaM.fresh w lo (s.setF i x) :=
  ⟨fun j hj => by
    by_cases e : j = i
    · rw [show (s.setF i x).f j = x from if_pos e]
      exact ⟨h1, h2, h3⟩
    · rw [show (s.setF i x).f j = s.f j from if_neg e]
      exact h.sl j hj, h.fe, h.li, h.cf⟩

/-- what Fold leaves -/
def Folded (s : StaM) (q : RecP) (w : World) (e : Ending) (w' : World) : Prop := ∃ s' : StaM, e = .returned s'.v ∧ s'.p = foldP s.p q ∧ StaM.fresh w' w.heap.size s' ∧ Below w.heap.size w w'

end Go.Proofs.YtnkjdijbfnmnhaaGreat
/-
  The example of layer 14; the document's Folds; what the laws lean on.
-/
namespace Go.Proofs.YtnkjdijbfnmnhaaGreat
open Go.RowKit

def exR : RecM := { zeroRec with ki := 2, ke := 3 }
theorem exR_may : mayR exR.p = true := by decide
theorem exR_good (w : World) (B : Nat) : RecM.good w B exR := ⟨by simp [RecM.ok', BalIn, N64, N32, exR, zeroRec], zeroM_ok w B, zeroCf_ok w B⟩

set_option maxRecDepth 100000 in
set_option maxHeartbeats 3200000 in
theorem putEx_any (w : World) : Calls Tryz.prog 18 #[.agg #[.int .u8 2, .int .u8 3, .int .u64 0, .int .u8 0, .int .u32 0, .int .u64 0, .int .u8 0, .int .u32 0, .int .u8 0, .int .u64 0, .int .i64 0, .slice none 0 0, .slice none 0 0, .slice none 0 0, .int .u64 0, .slice none 0 0, .int .u64 0, .int .u32 0, .int .u64 0, .slice none 0 0, .slice none 0 0]] w fun e w' => ∃ A c, e = .returned (.tuple #[.slice A 2 c, .int .i64 0]) ∧ w'.ownsRow w.heap.size 5 1 (.slice A 2 c) 2 (bv [2, 3]) ∧ Below w.heap.size w w' := by
  have HM := hide_ (fun (u : World) => mayRec_any exR u.heap.size u (exR_good _ _) (Nat.le_refl _))
  rw [exR_may] at HM
  have HP1 := hide_ (fun (u : World) => PutNum_any [] [2] 2 u.heap.size none 0 0 u rfl (by rw [numB_small (by decide)]; rfl) (by omega) (Sees.empty _ _ _) (Nat.le_refl _) (by simp))
  have HP2 := hide_ (fun (A : Option Addr) (c : Nat) (u : World) (h : Sees u u.heap.size A (bv [2])) => PutNum_any [2] [2, 3] 3 u.heap.size A 1 c u rfl (by rw [numB_small (by decide)]; rfl) (by omega) h (Nat.le_refl _) (by simp))
  obtain ⟨V, hV⟩ : ∃ V : Value, .agg #[.int .u8 2, .int .u8 3, .int .u64 0, .int .u8 0, .int .u32 0, .int .u64 0, .int .u8 0, .int .u32 0, .int .u8 0, .int .u64 0, .int .i64 0, .slice none 0 0, .slice none 0 0, .slice none 0 0, .int .u64 0, .slice none 0 0, .int .u64 0, .int .u32 0, .int .u64 0, .slice none 0 0, .slice none 0 0] = V := ⟨_, rfl⟩
  have HM2 := hide_ (fun (u : World) => show Calls Tryz.prog 20 #[V] u fun e w' => e = .returned (.bool true) ∧ Below u.heap.size u w' from by rw [← hV]; exact HM.out u)
  rw [hV]
  have HV := hide_ hV.symm
  clear hV HM
  go_enter Tryz.func18, Tryz.ntmps18
  go_wp2_with (first | (refine box_whole 54 (by rfl) _ (by rfl) (by rfl) HV.out ?_; intro W0 HX0 HB0 HZ0; have hcx := HX0.out.cell; have hz0 : w.heap.size < W0.heap.size := HX0.out.lt) | (refine load_whole 54 (by rfl) _ (by rfl) rec_size rec_row HX0.out (by rfl) (by rfl) ?_; rw [← HV.out]))
  refine (HM2.out _).mono ?_
  rintro en w1 ⟨rfl, hb1⟩
  have HX1 := hide_ (HX0.out.below hb1)
  have HB1 := hide_ (HB0.out.trans (hb1.mono HB0.out.size))
  have HL1 := hide_ hb1
  clear hb1 hcx hz0
  have hcx := HX1.out.cell
  have hz0 : w.heap.size < w1.heap.size := HX1.out.lt
  go_wp2_with fail
  refine (HP1.out _).mono ?_
  rintro en w2 ⟨A1, c1, rfl, ho1, hb1⟩
  have HO1 := hide_ ho1
  clear ho1
  have HX2 := hide_ (HX1.out.below hb1)
  have HB2 := hide_ (HB1.out.trans (hb1.mono HB1.out.size))
  have HL2 := hide_ hb1
  clear hb1 hcx hz0
  have hcx := HX2.out.cell
  have hz0 : w.heap.size < w2.heap.size := HX2.out.lt
  go_wp2_with fail
  refine (HP2.out A1 c1 w2 (Sees.own HO1.out)).mono ?_
  rintro en w3 ⟨A2, c2, rfl, ho2, hb2⟩
  have HO2 := hide_ (own_mono (base' := w.heap.size) ho2 HB2.out.size)
  have HB3 := hide_ (HB2.out.trans (hb2.mono HB2.out.size))
  clear ho2 hb2 hcx hz0
  go_wp2
  refine bodyPost_ret (v := .tuple #[.slice A2 2 c2, .int .i64 0]) (by simp [results, Tryz.results18, go_sem]) rfl ?_
  exact ⟨A2, c2, rfl, HO2.out, HB3.out⟩

theorem awake14_any (w : World) : Calls Tryz.prog 17 #[] w fun e w' => e = .returned (.bool true) ∧ Below w.heap.size w w' := by
  have HC := hide_ (putEx_any w)
  go_enter Tryz.func17, Tryz.ntmps17
  go_wp2_with (refine build_known 54 _ (by rfl) (by rfl) (V := .agg #[.int .u8 2, .int .u8 3, .int .u64 0, .int .u8 0, .int .u32 0, .int .u64 0, .int .u8 0, .int .u32 0, .int .u8 0, .int .u64 0, .int .i64 0, .slice none 0 0, .slice none 0 0, .slice none 0 0, .int .u64 0, .slice none 0 0, .int .u64 0, .int .u32 0, .int .u64 0, .slice none 0 0, .slice none 0 0]) (by kernel_rfl) ?_)
  refine HC.out.mono ?_
  rintro en w1 ⟨A, c, rfl, hown, hb⟩
  have k1 := run_str (P := Tryz.prog) w1 50 9 5 Tryz.underlying50 Tryz.underlying5 Tryz.underlying9 [2, 3] _ A 2 c rfl (Sees.own hown)
  have HB := hide_ hb
  clear hown hb
  go_wp2
  go_ret
  exact ⟨rfl, HB.out⟩

/-- what is known behind records -/
def foldsM (l : List RecM) : StaM := l.foldl foldM zeroSt
def foldsP (l : List RecP) : StaP := l.foldl foldP zeroSTP
theorem foldsM_succ {l : List RecM} {k : Nat} {x : RecM} (h : l[k]? = some x) : foldsM (l.take (k + 1)) = foldM (foldsM (l.take k)) x := by
  obtain ⟨h1, rfl⟩ := List.getElem?_eq_some_iff.1 h
  rw [List.take_succ_eq_append_getElem h1, foldsM, List.foldl_append]
  rfl
theorem foldsP_succ {l : List RecM} {k : Nat} {x : RecM} (h : l[k]? = some x) : foldsP ((l.take (k + 1)).map RecM.p) = foldP (foldsP ((l.take k).map RecM.p)) x.p := by
  obtain ⟨h1, rfl⟩ := List.getElem?_eq_some_iff.1 h
  rw [List.take_succ_eq_append_getElem h1, List.map_append, foldsP, List.foldl_append]
  rfl
theorem foldl_p (l : List RecM) : ∀ s : StaM, (l.foldl foldM s).p = (l.map RecM.p).foldl foldP s.p := by
  induction l with
  | nil => intro s; rfl
  | cons x l ih => intro s; rw [List.foldl_cons, ih, foldM_p]; rfl
theorem foldsM_p (l : List RecM) : (foldsM l).p = foldsP (l.map RecM.p) := foldl_p l zeroSt
theorem foldl_aside {w : World} {row : Option Nat} (l : List RecM) (h : ∀ m ∈ l, m.ok' ∧ m.r.few ∧ RAside w row m.r ∧ CAside w row m.cf) : ∀ s, SAside w row s → SAside w row (l.foldl foldM s) := by
  induction l with
  | nil => intro s hs; exact hs
  | cons x l ih =>
    intro s hs
    have hx := h x List.mem_cons_self
    exact ih (fun m hm => h m (List.mem_cons_of_mem _ hm)) _ (foldM_aside hs hx.1 hx.2.1 hx.2.2.1 hx.2.2.2)
theorem foldsM_good {w : World} {B : Nat} (l : List RecM) (hB : B ≤ w.heap.size) (h : ∀ m ∈ l, RecM.tame w B m) : StaM.good w w.heap.size (foldsM l) :=
  (foldl_aside (row := none) l (fun m hm => ⟨(h m hm).g.1, (h m hm).f, RAside.low (h m hm).g.2.1 hB (fun z e => by cases e), CAside.low (h m hm).g.2.2 hB (fun z e => by cases e)⟩) zeroSt (SAside.zero w none)).good
theorem sameSt_refl (a : StaP) : sameSt a a = true := by
  unfold sameSt
  rw [slotsB_yes (fun i _ => decide_eq_true rfl)]
  simp
theorem setF_twice (s : StaP) (i : Nat) (x : SlotP) : (s.setF i x).setF i x = s.setF i x := by
  unfold StaP.setF
  simp only
  congr 1
  funext k
  split <;> rfl
theorem foldP_twice (s : StaP) (p : RecP) : foldP (foldP s p) p = foldP s p := by
  unfold foldP
  split
  · unfold doP
    split
    · exact setF_twice _ _ _
    split
    · exact setF_twice _ _ _
    split
    · simp only [StaP.mk.injEq, true_and, and_true]
      omega
    split
    · rfl
    split <;> rfl
  · rfl
theorem RecM.tame.below {w w' : World} {B : Nat} {m : RecM} (h : RecM.tame w B m) (hb : Below B w w') : RecM.tame w' B m := ⟨h.g.below hb, h.f⟩
theorem RecM.tame.more {w : World} {B B' : Nat} {m : RecM} (h : RecM.tame w B m) (hB : B ≤ B') : RecM.tame w B' m := ⟨h.g.more hB, h.f⟩
theorem tame_of {w : World} {B : Nat} {l : List RecM} (h : ∀ m ∈ l, RecM.wide w B m) (hl : ∀ m ∈ l, m.least) : ∀ m ∈ l, RecM.tame w B m := fun m hm => by
  obtain ⟨h1, h2, h3, h4⟩ := (h m hm).tame (hl m hm)
  exact ⟨⟨h1, h2, h3⟩, h4⟩

end Go.Proofs.YtnkjdijbfnmnhaaGreat
/-
  A record's bytes: contracts of record's putSlot and Put.
-/
namespace Go.Proofs.YtnkjdijbfnmnhaaGreat
open Go.RowKit

def rslotB (p : RecP) : List UInt8 := numB p.ke ++ (balB p.pc p.pn p.pl ++ (balB p.ac p.an p.al ++ regB p.r))
def bodyB (p : RecP) : List UInt8 := if p.ki = 1 then rslotB p else if p.ki = 2 then numB p.ke else if p.ki = 3 then numB p.fe else if p.ki = 4 then numB p.li else if p.ki = 5 then confB p.cf else []
def recB (p : RecP) : List UInt8 := numB p.ki ++ bodyB p
def putRc (p : RecP) : List UInt8 × Int := if mayR p then (recB p, 0) else ([], 3)
theorem putRc_yes {p : RecP} (h : mayR p = true) : putRc p = (recB p, 0) := by unfold putRc; rw [if_pos h]
theorem putRc_no {p : RecP} (h : mayR p = false) : putRc p = ([], 3) := by unfold putRc; rw [h]; rfl
theorem mayR_reg {p : RecP} (h : mayR p = true) (hk : p.ki = 1) : mayG p.r = true := by
  unfold mayR tellR slotB at h
  rw [Bool.and_eq_true, if_pos hk] at h
  simp only [Bool.and_eq_true] at h
  exact h.2.2.2.2.2
theorem balR_size : (Tryz.prog.info? 49).map (·.size) = some 3 := by kernel_rfl
theorem balR_row : ∃ d, Tryz.prog.underlying 49 = some d ∧ d.isRow = true := ⟨_, Tryz.underlying49, rfl⟩
theorem regR_size : (Tryz.prog.info? 31).map (·.size) = some 8 := by kernel_rfl
theorem regR_row : ∃ d, Tryz.prog.underlying 31 = some d ∧ d.isRow = true := ⟨_, Tryz.underlying31, rfl⟩
theorem cfR_size : (Tryz.prog.info? 52).map (·.size) = some 3 := by kernel_rfl
theorem cfR_row : ∃ d, Tryz.prog.underlying 52 = some d ∧ d.isRow = true := ⟨_, Tryz.underlying52, rfl⟩
theorem RecM.ex_p (m : RecM) : m.box.extract 2 (2 + 3) = #[.int .u64 m.pc, .int .u8 m.pn, .int .u32 m.pl] := rfl
theorem RecM.ex_a (m : RecM) : m.box.extract 5 (5 + 3) = #[.int .u64 m.ac, .int .u8 m.an, .int .u32 m.al] := rfl
theorem RecM.ex_r (m : RecM) : m.box.extract 8 (8 + 8) = m.r.cs.toArray := rfl
theorem RecM.ex_c (m : RecM) : m.box.extract 18 (18 + 3) = m.cf.cs.toArray := rfl

set_option maxRecDepth 100000 in
set_option maxHeartbeats 3200000 in
theorem putSlot_any (p r : List UInt8) (k cap : Nat) (A : Option Addr) (m : RecM) (B : Nat) (w : World) (hk : p.length = k) (hp : k ≤ 100) (hs : Sees w B A (bv p)) (hm : RecM.good w B m) (hB : B ≤ w.heap.size) (hg : mayG m.r.p = true) (hres : p ++ rslotB m.p = r) :
    Calls Tryz.prog 52 #[.slice A k cap, m.v] w (PutsT (r, 0) w) := by
  obtain ⟨⟨⟨-, hke⟩, hbp, hba, -, -⟩, hrg, -⟩ := hm
  obtain ⟨q1, hq1⟩ : ∃ q, p ++ numB m.ke = q := ⟨_, rfl⟩
  obtain ⟨q2, hq2⟩ : ∃ q, q1 ++ balB m.pc m.pn m.pl = q := ⟨_, rfl⟩
  obtain ⟨q3, hq3⟩ : ∃ q, q2 ++ balB m.ac m.an m.al = q := ⟨_, rfl⟩
  have HQ1 := hide_ hq1
  have HQ2 := hide_ hq2
  have HQ3 := hide_ hq3
  have HR := hide_ (show putRG q3 m.r.p = (r, 0) from by rw [putRG_yes hg, ← hq3, ← hq2, ← hq1, ← hres]; simp [rslotB, RecM.p])
  have HL1 := hide_ (show q1.length ≤ 110 by rw [← hq1, List.length_append]; have := numB_length m.ke (by omega); omega)
  have HL2 := hide_ (show q2.length ≤ 140 by rw [← hq2, List.length_append]; have := balB_length hbp.1 hbp.2.1 hbp.2.2; have := HL1.out; omega)
  have HL3 := hide_ (show q3.length ≤ 170 by rw [← hq3, List.length_append]; have := balB_length hba.1 hba.2.1 hba.2.2; have := HL2.out; omega)
  have HBP := hide_ hbp
  have HBA := hide_ hba
  have HRG := hide_ (fun (u : World) (h : Below w.heap.size w u) => reg_stable.below (reg_stable.more hrg hB) h)
  have HS := hide_ (fun (u : World) (h : Below w.heap.size w u) => (⟨hs.below (h.mono hB), Nat.le_trans hB h.size⟩ : Sees u B A (bv p) ∧ B ≤ u.heap.size))
  have HK := hide_ hk
  have HKE := hide_ (show m.ke < 18446744073709551616 from by omega)
  have HEP := hide_ m.ex_p
  have HEA := hide_ m.ex_a
  have HER := hide_ m.ex_r
  have HRN := hide_ (show m.r.cs.toArray.size = 8 from rfl)
  have HRV := hide_ (show m.r.v = .agg m.r.cs.toArray from rfl)
  have HC1 := hide_ (show m.box[1]? = some (.int .u8 m.ke) from rfl)
  have HV := hide_ (show m.v = .agg m.box from rfl)
  have HSZ := hide_ (show m.box.size = 21 from rfl)
  obtain ⟨V, hV⟩ : ∃ V, m.v = V := ⟨_, rfl⟩
  rw [hV] at HV ⊢
  obtain ⟨RC, hRC⟩ : ∃ V, m.r.cs.toArray = V := ⟨_, rfl⟩
  rw [hRC] at HER HRN HRV
  have hke255 : m.ke ≤ 255 := hke
  obtain ⟨pc, hpc⟩ : ∃ x, m.pc = x := ⟨_, rfl⟩
  obtain ⟨pn, hpn⟩ : ∃ x, m.pn = x := ⟨_, rfl⟩
  obtain ⟨pl, hpl⟩ : ∃ x, m.pl = x := ⟨_, rfl⟩
  obtain ⟨ac, hac⟩ : ∃ x, m.ac = x := ⟨_, rfl⟩
  obtain ⟨an, han⟩ : ∃ x, m.an = x := ⟨_, rfl⟩
  obtain ⟨al, hal⟩ : ∃ x, m.al = x := ⟨_, rfl⟩
  obtain ⟨ke, hkee⟩ : ∃ x, m.ke = x := ⟨_, rfl⟩
  rw [hpc, hpn, hpl] at HQ2 HBP HEP
  rw [hac, han, hal] at HQ3 HBA HEA
  rw [hkee] at HQ1 HKE HC1 hke255
  clear hV hRC hk hs hB hres hg hq1 hq2 hq3 hbp hba hrg hke hpc hpn hpl hac han hal hkee
  go_enter Tryz.func52, Tryz.ntmps52
  go_wp2_with (refine box_whole 54 (by rfl) _ (by rfl) (by rfl) HV.out ?_; intro W0 HX0 HB0 HZ0; have r1 := (HX0.out.cell 1).trans HC1.out; have hz0 : w.heap.size < W0.heap.size := HX0.out.lt)
  refine (PutNum_any p q1 ke B A k cap _ HK.out HQ1.out HKE.out (HS.out _ HB0.out).1 (HS.out _ HB0.out).2 (by have := HK.out; omega)).mono ?_
  rintro en w1 ⟨A1, c1, rfl, ho1, hb1⟩
  have HS1 := hide_ (Sees.own ho1)
  have HB1 := hide_ (HB0.out.trans (hb1.mono HB0.out.size))
  have HX1 := hide_ (HX0.out.below hb1)
  clear ho1 hb1 r1 hz0 HX0 HB0 HZ0
  have hz0 : w.heap.size < w1.heap.size := HX1.out.lt
  go_wp2_with (first | (refine load_part 49 (by rfl) _ (by rfl) balR_size balR_row HX1.out (i := 2) (by rfl) HEP.out (by rfl) ?_) | fail)
  refine (BalPut_any q1 q2 pc pn pl w1.heap.size A1 _ c1 w1 rfl HQ2.out HBP.out.1 HBP.out.2.1 HBP.out.2.2 HS1.out (Nat.le_refl _) (by have := HL1.out; omega)).mono ?_
  rintro en w2 ⟨A2, c2, rfl, ho2, hb2⟩
  have HS2 := hide_ (Sees.own ho2)
  have HB2 := hide_ (HB1.out.trans (hb2.mono HB1.out.size))
  have HX2 := hide_ (HX1.out.below hb2)
  clear ho2 hb2 hz0 HX1 HB1 HS1
  have hz0 : w.heap.size < w2.heap.size := HX2.out.lt
  go_wp2_with (first | (refine load_part 49 (by rfl) _ (by rfl) balR_size balR_row HX2.out (i := 5) (by rfl) HEA.out (by rfl) ?_) | fail)
  refine (BalPut_any q2 q3 ac an al w2.heap.size A2 _ c2 w2 rfl HQ3.out HBA.out.1 HBA.out.2.1 HBA.out.2.2 HS2.out (Nat.le_refl _) (by have := HL2.out; omega)).mono ?_
  rintro en w3 ⟨A3, c3, rfl, ho3, hb3⟩
  have HS3 := hide_ (Sees.own ho3)
  have HB3 := hide_ (HB2.out.trans (hb3.mono HB2.out.size))
  have HX3 := hide_ (HX2.out.below hb3)
  clear ho3 hb3 hz0 HX2 HB2 HS2
  have hz0 : w.heap.size < w3.heap.size := HX3.out.lt
  have HPR := hide_ (putReg_any q3 _ c3 A3 m.r w3.heap.size w3 rfl (by have := HL3.out; omega) HS3.out (reg_stable.more (HRG.out _ HB3.out) HB3.out.size) (Nat.le_refl _))
  rw [HR.out, HRV.out] at HPR
  go_wp2_with (first | (refine load_part 31 (by rfl) _ (by rfl) regR_size regR_row HX3.out (i := 8) (by rfl) HER.out HRN.out ?_) | fail)
  refine HPR.out.mono ?_
  rintro en w4 ⟨A4, c4, rfl, ho4, hb4⟩
  have HO4 := hide_ (own_mono (base' := w.heap.size) ho4 HB3.out.size)
  have HB4 := hide_ (HB3.out.trans (hb4.mono HB3.out.size))
  clear ho4 hb4
  go_wp2
  go_ret2
  exact ⟨A4, c4, rfl, HO4.out, HB4.out⟩

set_option maxRecDepth 100000 in
set_option maxHeartbeats 6400000 in
theorem recPut_any (m : RecM) (B : Nat) (w : World) (hm : RecM.good w B m) (hB : B ≤ w.heap.size) : Calls Tryz.prog 18 #[m.v] w (PutsT (putRc m.p) w) := by
  have HMY := hide_ (fun (u : World) (h : Below w.heap.size w u) => mayRec_any m w.heap.size u ((hm.more hB).below h) h.size)
  have HPS := hide_ (fun (hg : mayG m.r.p = true) (p r : List UInt8) (k cap : Nat) (A : Option Addr) (u : World) (h : Below w.heap.size w u) (hk : p.length = k) (hp : k ≤ 100) (hs : Sees u u.heap.size A (bv p)) (hres : p ++ rslotB m.p = r) => putSlot_any p r k cap A m u.heap.size u hk hp hs (((hm.more hB).below h).more h.size) (Nat.le_refl _) hg hres)
  have HCF := hide_ (fun (p r : List UInt8) (k cap : Nat) (A : Option Addr) (u : World) (h : Below w.heap.size w u) (hk : p.length = k) (hp : k ≤ 10000) (hs : Sees u u.heap.size A (bv p)) (hres : p ++ confB m.p.cf = r) => confPut_any p r k cap A m.cf u.heap.size u hk hp hs (((hm.2.2.more hB).below h).more h.size) (Nat.le_refl _) hres)
  have HRG := hide_ (fun (h1 : mayR m.p = true) (h2 : m.p.ki = 1) => mayR_reg h1 h2)
  have HYK := hide_ (show mayR m.p = true → (m.ki = 1 ∨ m.ki = 2 ∨ m.ki = 3 ∨ m.ki = 4 ∨ m.ki = 5) from mayR_kind)
  have HY := hide_ (fun h : mayR m.p = true => putRc_yes h)
  have HN := hide_ (fun h : mayR m.p = false => putRc_no h)
  have HRB := hide_ (show recB m.p = numB m.ki ++ (if m.ki = 1 then rslotB m.p else if m.ki = 2 then numB m.ke else if m.ki = 3 then numB m.fe else if m.ki = 4 then numB m.li else if m.ki = 5 then confB m.p.cf else []) from rfl)
  obtain ⟨q, hq⟩ : ∃ q, mayR m.p = q := ⟨_, rfl⟩
  simp only [hq] at HMY HRG HYK HY HN
  obtain ⟨R, hR⟩ : ∃ R, putRc m.p = R := ⟨_, rfl⟩
  rw [hR] at HY HN ⊢
  obtain ⟨out, hout⟩ : ∃ x, recB m.p = x := ⟨_, rfl⟩
  rw [hout] at HRB
  simp only [hout] at HY
  obtain ⟨⟨hki, hke⟩, -, -, hfe, hli⟩ := hm.1
  have HKI := hide_ hki
  have HC0 := hide_ (show m.box[0]? = some (.int .u8 m.ki) from rfl)
  have HC1 := hide_ (show m.box[1]? = some (.int .u8 m.ke) from rfl)
  have HC2 := hide_ (show m.box[16]? = some (.int .u64 m.fe) from rfl)
  have HC3 := hide_ (show m.box[17]? = some (.int .u32 m.li) from rfl)
  have HEC := hide_ m.ex_c
  have HCN := hide_ (show m.cf.cs.toArray.size = 3 from rfl)
  have HCV := hide_ (show m.cf.v = .agg m.cf.cs.toArray from rfl)
  have HV := hide_ (show m.v = .agg m.box from rfl)
  have HSZ := hide_ (show m.box.size = 21 from rfl)
  obtain ⟨V, hV⟩ : ∃ V, m.v = V := ⟨_, rfl⟩
  rw [hV] at HV ⊢
  simp only [hV] at HMY HPS
  obtain ⟨RC, hRC⟩ : ∃ V, m.cf.cs.toArray = V := ⟨_, rfl⟩
  rw [hRC] at HEC HCN HCV
  simp only [HCV.out] at HCF
  obtain ⟨sb, hsb⟩ : ∃ x, rslotB m.p = x := ⟨_, rfl⟩
  obtain ⟨cb, hcb⟩ : ∃ x, confB m.p.cf = x := ⟨_, rfl⟩
  rw [hsb, hcb] at HRB
  simp only [hsb] at HPS
  simp only [hcb] at HCF
  have HRG2 := hide_ (show q = true → m.ki = 1 → mayG m.r.p = true from HRG.out)
  obtain ⟨ki, hkie⟩ : ∃ x, m.ki = x := ⟨_, rfl⟩
  obtain ⟨ke, hkee⟩ : ∃ x, m.ke = x := ⟨_, rfl⟩
  obtain ⟨fe, hfee⟩ : ∃ x, m.fe = x := ⟨_, rfl⟩
  obtain ⟨li, hlie⟩ : ∃ x, m.li = x := ⟨_, rfl⟩
  simp only [hkie, hkee, hfee, hlie] at HRG2 HYK HRB HKI HC0 HC1 HC2 HC3 hki hke hfe hli
  have hfe' : fe < 18446744073709551616 := by unfold N64 at hfe; omega
  have hli' : li ≤ 4294967295 := hli
  have HNK := hide_ (numB_length ki (by omega))
  have HFE := hide_ (show fe < 18446744073709551616 by omega)
  have HKE := hide_ (show ke < 18446744073709551616 by omega)
  have HLI := hide_ (show li < 18446744073709551616 by omega)
  clear hq hR hout hV hRC hsb hcb hm hB HRG hkie hkee hfee hlie hfe hli hfe'
  go_enter Tryz.func18, Tryz.ntmps18
  go_wp2_with (first | (refine box_whole 54 (by rfl) _ (by rfl) (by rfl) HV.out ?_; intro W0 HX0 HB0 HZ0; have hz0 : w.heap.size < W0.heap.size := HX0.out.lt) | (refine load_whole 54 (by rfl) _ (by rfl) rec_size rec_row HX0.out (by rfl) HSZ.out ?_; rw [← HV.out]))
  refine (HMY.out _ HB0.out).mono ?_
  rintro en w1 ⟨rfl, hb1⟩
  have HX1 := hide_ (HX0.out.below hb1)
  have HB1 := hide_ (HB0.out.trans (hb1.mono HB0.out.size))
  clear hb1 hz0 HX0 HB0 HZ0 HMY
  have hz0 : w.heap.size < w1.heap.size := HX1.out.lt
  cases q with
  | false =>
    obtain rfl := (HN.out rfl).symm
    go_wp2
    go_ret2
    exact ⟨none, 0, rfl, World.ownsRow_nil _ _ _ _, HB1.out⟩
  | true =>
  obtain rfl := (HY.out rfl).symm
  have r0 := (HX1.out.cell 0).trans HC0.out
  have hk5 := HYK.out rfl
  obtain ⟨q1, hq1⟩ : ∃ x, numB ki = x := ⟨_, rfl⟩
  have HQ1 := hide_ hq1
  rw [hq1] at HRB HNK
  clear hq1 HN HY HYK
  go_wp2_with fail
  refine (PutNum_any [] q1 ki w1.heap.size none 0 0 w1 rfl HQ1.out (by omega) (Sees.empty _ _ _) (Nat.le_refl _) (by simp)).mono ?_
  rintro en w2 ⟨A2, c2, rfl, ho2, hb2⟩
  have HO2 := hide_ (own_mono (base' := w.heap.size) ho2 HB1.out.size)
  have HX2 := hide_ (HX1.out.below hb2)
  have HB2 := hide_ (HB1.out.trans (hb2.mono HB1.out.size))
  clear ho2 hb2 hz0 r0 HX1
  have hz0 : w.heap.size < w2.heap.size := HX2.out.lt
  have r0 := (HX2.out.cell 0).trans HC0.out
  have HS2 := hide_ (Sees.own HO2.out)
  have HLQ := hide_ (show q1.length ≤ 10 from HNK.out)
  rcases hk5 with hk | hk | hk | hk | hk
  · subst hk
    have HRB1 := hide_ (show q1 ++ sb = out from HRB.out.symm)
    go_wp2_with (first | (refine load_whole 54 (by rfl) _ (by rfl) rec_size rec_row HX2.out (by rfl) HSZ.out ?_; rw [← HV.out]))
    refine (HPS.out (HRG2.out (by first | trivial | rfl) (by first | trivial | rfl)) q1 out _ c2 A2 w2 HB2.out rfl (by have := HLQ.out; omega) HS2.out HRB1.out).mono ?_
    rintro en w3 ⟨A3, c3, rfl, ho3, hb3⟩
    have HO3 := hide_ (own_mono (base' := w.heap.size) ho3 HB2.out.size)
    have HB3 := hide_ (HB2.out.trans (hb3.mono HB2.out.size))
    clear ho3 hb3
    go_wp2
    go_ret2
    exact ⟨A3, c3, rfl, HO3.out, HB3.out⟩
  · subst hk
    have HRB1 := hide_ (show q1 ++ numB ke = out from HRB.out.symm)
    have r1 := (HX2.out.cell 1).trans HC1.out
    go_wp2_with fail
    refine (PutNum_any q1 out ke w2.heap.size A2 _ c2 w2 rfl HRB1.out HKE.out HS2.out (Nat.le_refl _) (by have := HLQ.out; omega)).mono ?_
    rintro en w3 ⟨A3, c3, rfl, ho3, hb3⟩
    have HO3 := hide_ (own_mono (base' := w.heap.size) ho3 HB2.out.size)
    have HB3 := hide_ (HB2.out.trans (hb3.mono HB2.out.size))
    clear ho3 hb3
    go_wp2
    go_ret2
    exact ⟨A3, c3, rfl, HO3.out, HB3.out⟩
  · subst hk
    have HRB1 := hide_ (show q1 ++ numB fe = out from HRB.out.symm)
    have r1 := (HX2.out.cell 16).trans HC2.out
    go_wp2_with fail
    refine (PutNum_any q1 out fe w2.heap.size A2 _ c2 w2 rfl HRB1.out HFE.out HS2.out (Nat.le_refl _) (by have := HLQ.out; omega)).mono ?_
    rintro en w3 ⟨A3, c3, rfl, ho3, hb3⟩
    have HO3 := hide_ (own_mono (base' := w.heap.size) ho3 HB2.out.size)
    have HB3 := hide_ (HB2.out.trans (hb3.mono HB2.out.size))
    clear ho3 hb3
    go_wp2
    go_ret2
    exact ⟨A3, c3, rfl, HO3.out, HB3.out⟩
  · subst hk
    have HRB1 := hide_ (show q1 ++ numB li = out from HRB.out.symm)
    have r1 := (HX2.out.cell 17).trans HC3.out
    go_wp2_with fail
    refine (PutNum_any q1 out li w2.heap.size A2 _ c2 w2 rfl HRB1.out HLI.out HS2.out (Nat.le_refl _) (by have := HLQ.out; omega)).mono ?_
    rintro en w3 ⟨A3, c3, rfl, ho3, hb3⟩
    have HO3 := hide_ (own_mono (base' := w.heap.size) ho3 HB2.out.size)
    have HB3 := hide_ (HB2.out.trans (hb3.mono HB2.out.size))
    clear ho3 hb3
    go_wp2
    go_ret2
    exact ⟨A3, c3, rfl, HO3.out, HB3.out⟩
  · subst hk
    have HRB1 := hide_ (show q1 ++ cb = out from HRB.out.symm)
    go_wp2_with (first | (refine load_part 52 (by rfl) _ (by rfl) cfR_size cfR_row HX2.out (i := 18) (by rfl) HEC.out HCN.out ?_) | fail)
    refine (HCF.out q1 out _ c2 A2 w2 HB2.out rfl (by have := HLQ.out; omega) HS2.out HRB1.out).mono ?_
    rintro en w3 ⟨A3, c3, rfl, ho3, hb3⟩
    have HO3 := hide_ (own_mono (base' := w.heap.size) ho3 HB2.out.size)
    have HB3 := hide_ (HB2.out.trans (hb3.mono HB2.out.size))
    clear ho3 hb3
    go_wp2
    go_ret2
    exact ⟨A3, c3, rfl, HO3.out, HB3.out⟩
end Go.Proofs.YtnkjdijbfnmnhaaGreat

/-
  A record is taken out of bytes that were put: contracts of record's small, take and Get; how long its bytes are.
-/
namespace Go.Proofs.YtnkjdijbfnmnhaaGreat
open Go.RowKit

/-- numbers of a record that have room -/
structure RecP.snd (p : RecP) : Prop where
  may : mayR p = true
  nk : p.ki ≤ 255 ∧ p.ke ≤ 255
  bp : BalIn p.pc p.pn p.pl
  ba : BalIn p.ac p.an p.al
  fe : N64 p.fe
  li : N32 p.li
  get : ∀ t, getS (regB p.r ++ t, 0) = (p.r, (t, 0))
  cc : p.cf.1 < 18446744073709551616
  co : p.cf.2.1.length ≤ 64
  cn : p.cf.2.2.length ≤ 64
  cm : p.ki = 5 → mayC p.cf.1 p.cf.2.1 p.cf.2.2 = true
  nm : p = namedP p
  len : (recB p).length ≤ 2048
theorem mayR_nm {p : RecP} (h : mayR p = true) : p = namedP p := by
  unfold mayR at h
  rw [Bool.and_eq_true] at h
  exact of_decide_eq_true h.1
theorem mayR_regs {p : RecP} (h : mayR p = true) : mayG p.r = true := by
  by_cases hk : p.ki = 1
  · exact mayR_reg h hk
  · have e := mayR_nm h
    have : p.r = zeroP := by
      rw [e]
      unfold namedP
      rw [if_neg hk]
      (repeat' split) <;> rfl
    rw [this]
    rfl
theorem mayR_cfs {p : RecP} (h : mayR p = true) (hk : p.ki = 5) : mayC p.cf.1 p.cf.2.1 p.cf.2.2 = true := by
  unfold mayR tellR at h
  rw [Bool.and_eq_true, if_neg (by omega), if_neg (by omega), if_neg (by omega), if_neg (by omega), if_pos hk] at h
  exact h.2
theorem mayC_len {C : Nat} {o n : List UInt8} (h : mayC C o n = true) : o.length ≤ 64 ∧ n.length ≤ 64 := by
  by_cases hC : C % 2 = 1
  · rw [mayC_odd hC] at h
    simp only [Bool.and_eq_true, okL] at h
    exact ⟨mayN_len h.1.1.2, mayN_len h.1.2.2⟩
  · rw [mayC_even hC] at h
    simp only [Bool.and_eq_true, okL, decide_eq_true_eq] at h
    exact ⟨by omega, mayN_len h.1.2⟩
theorem mayR_conf {p : RecP} (h : mayR p = true) : p.cf.2.1.length ≤ 64 ∧ p.cf.2.2.length ≤ 64 := by
  by_cases hk : p.ki = 5
  · exact mayC_len (mayR_cfs h hk)
  · have e := mayR_nm h
    have : p.cf.2.1 = [] ∧ p.cf.2.2 = [] := by
      rw [e]
      unfold namedP
      (repeat' split) <;> first | exact ⟨rfl, rfl⟩ | (exfalso; omega)
    rw [this.1, this.2]
    exact ⟨by simp, by simp⟩
theorem numB_le1 {n : Nat} (h : n < 128) : (numB n).length ≤ 1 := numB_length_pow 0 n (by omega)
theorem numB_le2 {n : Nat} (h : n < 16384) : (numB n).length ≤ 2 := numB_length_pow 1 n (by omega)
theorem natB_le1 {n : Int} (h0 : 0 ≤ n) (h : n < 128) : (natB n).length ≤ 1 := numB_le1 (by omega)
theorem natB_le2 {n : Int} (h0 : 0 ≤ n) (h : n < 16384) : (natB n).length ≤ 2 := numB_le2 (by omega)
theorem varB_le {l : List Int} (h : ∀ x ∈ l, I64 x) (h1 : l.length ≤ 8) : (varB l).length ≤ 81 := by
  unfold varB
  rw [List.length_append]
  have h2 := natB_le1 (n := (l.length : Int)) (by omega) (by omega)
  have h3 := flat_le l fun t ht => intB_len t (h t ht)
  omega
theorem regB_le {w : World} {B : Nat} {r : RegM} (hr : RegM.ok w B r) (hm : mayG r.p = true) : (regB r.p).length ≤ 1600 := by
  have hk := hr.1.1
  unfold U8 at hk
  have h1 := natB_le2 (n := r.p.ki) (by show 0 ≤ r.ki; omega) (by show r.ki < _; omega)
  unfold regB
  rw [List.length_append]
  by_cases hk0 : r.p.ki = 0
  · rw [if_pos hk0]
    simp
    omega
  · rw [if_neg hk0]
    obtain ⟨hinc, ⟨hst, hva⟩, ⟨hdl, hdc⟩, ⟨hol, hoc⟩, hml⟩ := stn_parts (may_stn hm hk0).1
    obtain ⟨⟨_, hu2, _, hu4⟩, hov, hod, hoo, hom⟩ := hr
    have e1 := natU_len r.p.inc hu2
    have e2 := natB_le1 (n := r.p.st) hst.1 (by omega)
    have e3 := varB_le (l := r.p.va) hov.2.2.2 hva
    have e4 := natB_le1 (n := (r.p.dn.length : Int)) (by omega) (by omega)
    have e5 : (r.p.dn.flatMap donB).length ≤ 107 * r.p.dn.length := flat_le (f := donB) r.p.dn fun z hz => by
      obtain ⟨d, hd, rfl⟩ := List.mem_map.1 hz
      have g := hod.2.2.2 d hd
      have q := (hdc _ hz).2
      have g1 := g.1.1
      have g2 := natU_len d.sq g.1.2.1
      have g4 := natU_len d.inc g.1.2.2.2.1
      unfold U8 at g1
      have a1 := natB_le2 (n := d.cl) g1.1 (by omega)
      have a3 := natB_le1 (n := d.er) q.1.1 (by have := q.1.2; simp only [DoneM.p] at this; omega)
      have a5 := natB_le1 (n := d.st) q.2.1.1 (by have := q.2.1.2; simp only [DoneM.p] at this; omega)
      have a6 := varB_le (l := d.va.l) g.2.2.2.2 q.2.2
      unfold donB DoneM.p
      simp only [List.length_append]
      omega
    have e6 := natB_le1 (n := (r.p.ou.length : Int)) (by omega) (by omega)
    have e7 : (r.p.ou.flatMap celB).length ≤ 24 * r.p.ou.length := flat_le (f := celB) r.p.ou fun z hz => by
      have g := hoo.2.2.2 z hz
      have q := hoc z hz
      have g1 := g.2.1
      unfold U8 at g1
      have a1 := natU_len z.1 g.1
      have a2 := natB_le2 (n := z.2.1) g1.1 (by omega)
      have a3 := natB_le1 (n := z.2.2.1) q.1 (by omega)
      have a4 := intB_len z.2.2.2 g.2.2.2
      unfold celB
      simp only [List.length_append]
      omega
    have e8 := natU_len r.p.la hu4
    have e9 := natB_le1 (n := (r.p.ma.length : Int)) (by omega) (by omega)
    have e10 : (r.p.ma.flatMap mrkB).length ≤ 22 * r.p.ma.length := flat_le (f := mrkB) r.p.ma fun z hz => by
      have g := hom.2.2.2 z hz
      have g1 := g.1
      unfold U8 at g1
      have a1 := natB_le2 (n := z.1) g1.1 (by omega)
      have a2 := natU_len z.2.1 g.2.1
      have a3 := natU_len z.2.2 g.2.2
      unfold mrkB
      simp only [List.length_append]
      omega
    simp only [List.length_append]
    omega
theorem nodesB_le {f : List UInt8} (h : f.length ≤ 64) : (nodesB f).length ≤ 129 := by
  have h1 := numB_le1 (n := f.length) (by omega)
  have h2 := flat_le (f := ndB) (q := 2) f (fun x _ => numB_le2 (by have := x.toNat_lt; omega))
  unfold nodesB
  rw [List.length_append]
  omega
theorem recB_le {w : World} {B : Nat} {m : RecM} (hm : RecM.good w B m) (h : mayR m.p = true) : (recB m.p).length ≤ 2048 := by
  obtain ⟨⟨⟨hki, hke⟩, hbp, hba, hfe, hli⟩, hr, hc⟩ := hm
  unfold N64 at hfe
  unfold N32 at hli
  have hcl := mayR_conf h
  have a1 := numB_le2 (n := m.p.ki) (by show m.ki < _; omega)
  have a2 := numB_le2 (n := m.p.ke) (by show m.ke < _; omega)
  have a3 := balB_length hbp.1 hbp.2.1 hbp.2.2
  have a4 := balB_length hba.1 hba.2.1 hba.2.2
  have a5 : (regB m.p.r).length ≤ 1600 := regB_le hr (mayR_regs h)
  have a6 := numB_length m.p.fe (by show m.fe < _; omega)
  have a7 := numB_length m.p.li (by show m.li < _; omega)
  have a8 := numB_length m.p.cf.1 hc.1
  have a9 := nodesB_le hcl.1
  have a10 := nodesB_le hcl.2
  unfold recB bodyB
  rw [List.length_append]
  have a3' : (balB m.p.pc m.p.pn m.p.pl).length ≤ 30 := a3
  have a4' : (balB m.p.ac m.p.an m.p.al).length ≤ 30 := a4
  (repeat' split) <;> first | (simp only [rslotB, confB, List.length_append]; omega) | (simp only [List.length_nil]; omega) | omega
theorem RecM.good.snd {w : World} {B : Nat} {m : RecM} (hm : RecM.good w B m) (h : mayR m.p = true) : RecP.snd m.p := by
  have hcl := mayR_conf h
  exact ⟨h, hm.1.1, hm.1.2.1, hm.1.2.2.1, hm.1.2.2.2.1, hm.1.2.2.2.2, getS_puts hm.2.1 (mayR_regs h), hm.2.2.1, hcl.1, hcl.2, mayR_cfs h, mayR_nm h, recB_le hm h⟩

theorem smallR_put {g n : Nat} {t : List UInt8} {w : World} (h : Rdr w g (numB n ++ t) 0) (hn : n ≤ 255) (hl : (numB n ++ t).length ≤ 1000000) :
    Calls Tryz.prog 132 #[.pointer (some ⟨g, 0, none⟩)] w (Leaves w g (.int .u8 n) t 0) := by
  have HC := hide_ (Num_put 255 h hn (by omega) hl)
  clear h hl
  go_enter Tryz.func132, Tryz.ntmps132
  go_wp2_with fail
  refine HC.out.mono ?_
  rintro e w1 ⟨rfl, hr, hg⟩
  go_wp2
  go_ret
  exact ⟨rfl, hr, hg⟩

theorem rec_info : (Tryz.prog.info? 54).map (fun i => (i.zero, i.size)) = some (some (.agg zeroRec.box), 21) := rec_zero
def kiRec (k : Nat) : RecM := { zeroRec with ki := k }
theorem build_ki (k : Nat) (u : World) : (Instr.build 54 #[(0, .int .u8 k)]).run Tryz.prog u = .ok (.agg (kiRec k).box) u := by kernel_rfl
theorem build_z (u : World) : (Instr.build 54 #[]).run Tryz.prog u = .ok (.agg zeroRec.box) u := by kernel_rfl
theorem RecM.one' (m : RecM) : m.box.all (·.oneCell') = true := by simp [RecM.box, Value.oneCell']
theorem RecM.size' (m : RecM) : m.box.size = 21 := rfl
theorem zeroM_ft (k : Nat) : ¬ RegM.ft zeroM k := by
  rintro (h | h | h | h) <;> rcases h with ⟨_, h, _⟩ | ⟨_, h, _⟩ <;> first | cases h | (simp [zeroM] at h)
theorem CFresh.zero (w : World) (lo : Nat) : CFresh w lo zeroCf := ⟨by decide, NFresh.nil w lo, NFresh.nil w lo⟩
theorem CFresh.box {w w' : World} {lo z : Nat} {x : CfM} {cs : Array Value} {t : TypeId} (h : CFresh w lo x) (hb : BoxAt w z cs t) (ht : t ≠ 5) (hg : w.grownBy w' (some z)) : CFresh w' lo x :=
  ⟨h.1, ⟨own_other9 h.2.1.1 (hb.apart9 ht h.2.1.1) hg, h.2.1.2⟩, ⟨own_other9 h.2.2.1 (hb.apart9 ht h.2.2.1) hg, h.2.2.2⟩⟩
theorem CFresh.below {w w' : World} {lo : Nat} {x : CfM} (h : CFresh w lo x) (hb : Below w.heap.size w w') : CFresh w' lo x :=
  ⟨h.1, ⟨own_below h.2.1.1 hb, h.2.1.2⟩, ⟨own_below h.2.2.1 hb, h.2.2.2⟩⟩
theorem CFresh.less {w : World} {lo lo' : Nat} {x : CfM} (h : CFresh w lo x) (hl : lo' ≤ lo) : CFresh w lo' x :=
  ⟨h.1, ⟨own_mono h.2.1.1 hl, h.2.1.2⟩, ⟨own_mono h.2.2.1 hl, h.2.2.2⟩⟩

set_option maxRecDepth 100000 in
/-- a record in memory whose lists are in new memory -/
structure RFresh (w : World) (lo : Nat) (x : RecM) : Prop where
  reg : RegM.ok w w.heap.size x.r
  lies : Lies RegM.ft x.r lo w.heap.size
  cf : CFresh w lo x.cf
theorem RFresh.box {w w' : World} {lo z : Nat} {x : RecM} {cs : Array Value} (h : RFresh w lo x) (hb : BoxAt w z cs 54) (hz : z < lo) (hg : w.grownBy w' (some z)) : RFresh w' lo x :=
  ⟨Local.grown reg_local h.reg hg (fun k hk e => by injection e with e; have := (h.lies k hk).1; omega), h.lies.more (Nat.le_refl _) hg.size, h.cf.box hb (by decide) hg⟩
theorem RFresh.below {w w' : World} {lo : Nat} {x : RecM} (h : RFresh w lo x) (hb : Below w.heap.size w w') : RFresh w' lo x :=
  ⟨Local.below reg_local h.reg hb, h.lies.more (Nat.le_refl _) hb.size, h.cf.below hb⟩
theorem RFresh.less {w : World} {lo lo' : Nat} {x : RecM} (h : RFresh w lo x) (hl : lo' ≤ lo) : RFresh w lo' x := ⟨h.reg, h.lies.more hl (Nat.le_refl _), h.cf.less hl⟩

/-- what a call leaves that takes a record: a record in memory, what is left -/
def TookR (p : RecP) (t : List UInt8) (g : Nat) (w : World) (e : Ending) (w' : World) : Prop :=
  ∃ x : RecM, e = .returned x.v ∧ x.p = p ∧ RFresh w' (w.heap.size + 2) x ∧ Rdr w' g t 0 ∧ w.grownBy w' (some g)

set_option maxRecDepth 100000 in
set_option maxHeartbeats 12800000 in
theorem take_rec (p : RecP) (t : List UInt8) (g : Nat) (w : World) (hp : p.snd) (h : Rdr w g (recB p ++ t) 0) (hl : (recB p ++ t).length ≤ 1000000) :
    Calls Tryz.prog 66 #[.pointer (some ⟨g, 0, none⟩)] w (TookR p t g w) := by
  obtain ⟨R, hR⟩ : ∃ R, TookR p t g w = R := ⟨_, rfl⟩
  rw [hR]
  have HFD := hide_ (fun (e : Ending) (w' : World) (x : RecM) (h1 : e = .returned x.v) (h2 : x.p = p) (h3 : RFresh w' (w.heap.size + 2) x) (h4 : Rdr w' g t 0) (h5 : w.grownBy w' (some g)) => show R e w' from by rw [← hR]; exact ⟨x, h1, h2, h3, h4, h5⟩)
  have HK := hide_ (mayR_kind hp.may)
  have HNM := hide_ hp.nm
  obtain ⟨hmay, ⟨hki, hke⟩, hbp, hba, hfe, hli, hget, hcc, hco, hcn, hcm, -, -⟩ := hp
  obtain ⟨ki, ke, pc, pn, pl, ac, an, al, rp, fe, li, cf⟩ := p
  simp only at hki hke hbp hba hfe hli hget hcc hco hcn hcm HK
  have HGET := hide_ hget
  have HBP := hide_ hbp
  have HBA := hide_ hba
  have HCM := hide_ hcm
  have HCC := hide_ hcc
  have HCO := hide_ hco
  have HCN := hide_ hcn
  have HFE := hide_ hfe
  have HLI := hide_ hli
  have HGL := hide_ h.glt
  obtain ⟨s1, hs1⟩ : ∃ s, bodyB ⟨ki, ke, pc, pn, pl, ac, an, al, rp, fe, li, cf⟩ ++ t = s := ⟨_, rfl⟩
  have e0 : recB ⟨ki, ke, pc, pn, pl, ac, an, al, rp, fe, li, cf⟩ ++ t = numB ki ++ s1 := by rw [← hs1]; simp [recB]
  rw [e0] at h hl
  have HL := hide_ (show s1.length ≤ 1000000 from by rw [List.length_append] at hl; omega)
  have HLL := hide_ hl
  have HS1 := hide_ hs1
  have HR0 := hide_ h
  clear hmay hget hbp hba hcm hcc hco hcn hfe hli hs1 e0 h hl hR
  go_enter Tryz.func66, Tryz.ntmps66
  go_wp2_with (refine alloc_whole 54 (by rfl) (by rfl) rec_info ?_; intro W0 HY0 HB0 HZ0)
  have HR1 := hide_ (HR0.out.below HB0.out)
  have HG0 := hide_ (grown_low (World.grownBy.refl w (some g)) HB0.out)
  have hz0 : w.heap.size < W0.heap.size := HY0.out.lt
  refine (smallR_put HR1.out hki HLL.out).mono ?_
  rintro en w1 ⟨rfl, hr1, hg1⟩
  have HG1 := hide_ (grown_join HG0.out hg1)
  have HY1 := hide_ (show BoxAt w1 w.heap.size zeroRec.box 54 from box_far hg1 HY0.out (by have := HGL.out; omega))
  have HR2 := hide_ hr1
  have HLO := hide_ (show w.heap.size + 1 ≤ w1.heap.size from by have := hg1.size; have := HZ0.out; omega)
  clear hr1 hg1 HR0 HR1 HG0 HY0 HB0 HZ0 hz0 HLL
  have HBK := hide_ (fun u => build_ki ki u)
  have HK0 := hide_ (show (kiRec ki).box[0]? = some (.int .u8 ki) from rfl)
  have HKS := hide_ (kiRec ki).size'
  have HKO := hide_ (kiRec ki).one'
  obtain ⟨kb, hkb⟩ : ∃ b, (kiRec ki).box = b := ⟨_, rfl⟩
  simp only [hkb] at HBK HK0 HKS HKO
  have HKB := hide_ hkb
  clear hkb
  go_upto_region 2 with (first | (refine bldG_known 54 _ (by rfl) (by rfl) #[(0, .int .u8 ki)] (by kernel_rfl) (HBK.out _) ?_) | (refine alloc_whole 54 (by rfl) (by rfl) rec_info ?_; intro W2 HX2 HB2 HS2) | (refine store_whole 54 (by rfl) _ _ (by rfl) rec_size (by rfl) (by rfl) (cs := kb) (by rfl) HKS.out HKO.out HX2.out (by rfl) ?_; intro W3 HX3 HG3 HS3))
  obtain ⟨z1, hz1⟩ : ∃ z, w1.heap.size = z := ⟨_, rfl⟩
  have HZ1 := hide_ (show w.heap.size < z1 from by rw [← hz1]; exact HY1.out.lt)
  have HZB := hide_ (show w.heap.size + 2 ≤ W3.heap.size from by have := HS3.out; have := HS2.out; have := HLO.out; omega)
  have HR3 := hide_ ((HR2.out.below HB2.out).other HG3.out (fun k e => by injection e with e; have := HGL.out; have := HZ1.out; omega))
  have HY3 := hide_ (show BoxAt W3 w.heap.size zeroRec.box 54 from box_far HG3.out (HY1.out.below HB2.out) (by have := HZ1.out; omega))
  have HG4 := hide_ (grown_also (grown_low HG1.out (HB2.out.mono HG1.out.size)) HG3.out (fun k e => by injection e with e; have := HZ1.out; omega))
  rw [hz1] at HX3 ⊢
  rw [← HKB.out] at HX3
  clear HX2 HB2 HS2 HG3 HS3 HR2 HY1 HG1 HLO HBK HKS HKO hz1 HK0
  rcases HK.out with hk | hk | hk | hk | hk
  · subst hk
    have HX4 := hide_ (show BoxAt W3 z1 (kiRec 1).box 54 from HX3.out)
    clear HX3 HK
    have HS := hide_ (show s1 = numB ke ++ (balB pc pn pl ++ (balB ac an al ++ (regB rp ++ t))) from HS1.out.symm.trans (by simp [bodyB, rslotB]))
    rw [HS.out] at HR3 HL
    clear HS HS1
    have r0 := (HX4.out.cell 0).trans (show (kiRec 1).box[0]? = some (.int .u8 1) from rfl)
    have f0 := HX4.out.free9 0
    have hzx : z1 < W3.heap.size := HX4.out.lt
    have HL2 := hide_ (show (balB pc pn pl ++ (balB ac an al ++ (regB rp ++ t))).length ≤ 1000000 ∧ (balB ac an al ++ (regB rp ++ t)).length ≤ 1000000 ∧ (regB rp ++ t).length ≤ 1000000 from by have := HL.out; simp only [List.length_append] at this ⊢; omega)
    go_wp2_with fail
    refine (smallR_put HR3.out hke HL.out).mono ?_
    rintro en w5 ⟨rfl, hr, hg⟩
    have HR5 := hide_ hr
    have HX5 := hide_ (show BoxAt w5 z1 _ _ from box_far hg HX4.out (by have := HGL.out; have := HZ1.out; omega))
    have HY5 := hide_ (show BoxAt w5 w.heap.size zeroRec.box 54 from box_far hg HY3.out (by have := HGL.out; omega))
    have HG5 := hide_ (grown_join HG4.out hg)
    clear hr hg r0 f0 hzx
    have hzx : z1 < w5.heap.size := HX5.out.lt
    have r0 := (HX5.out.cell 1).trans (show (kiRec 1).box[1]? = some (.int .u8 0) from rfl)
    have f0 := HX5.out.free9 1
    go_upto_region 6 with fail
    generalize hw6 : w5.setCell ⟨z1, 1, none⟩ (.int .u8 ke) = w6
    have HX6 := hide_ (show BoxAt w6 z1 (RecM.box { kiRec 1 with ke := ke }) 54 from hw6 ▸ HX5.out.set9 1 (.int .u8 ke))
    have HY6 := hide_ (show BoxAt w6 w.heap.size zeroRec.box 54 from hw6 ▸ box_apart HY5.out (by have := HZ1.out; omega))
    have HR6 := hide_ (show Rdr w6 g _ 0 from hw6 ▸ HR5.out.stored (by have := HZ1.out; have := HGL.out; omega))
    have HG6 := hide_ (show w.grownBy w6 (some g) from hw6 ▸ grown_stored HG5.out (by have := HZ1.out; omega))
    clear hw6 r0 f0 hzx HX5 HY5 HR5 HG5 HX4 HY3 HR3 HG4
    have hzx : z1 < w6.heap.size := HX6.out.lt
    go_wp2_with fail
    refine (BalGet_put HR6.out HBP.out HL2.out.1).mono ?_
    rintro en w7 ⟨rfl, hr, hg⟩
    have HR7 := hide_ hr
    have HX7 := hide_ (show BoxAt w7 z1 _ _ from box_far hg HX6.out (by have := HGL.out; have := HZ1.out; omega))
    have HY7 := hide_ (show BoxAt w7 w.heap.size zeroRec.box 54 from box_far hg HY6.out (by have := HGL.out; omega))
    have HG7 := hide_ (grown_join HG6.out hg)
    clear hr hg hzx HR6 HX6 HY6 HG6
    have hzx : z1 < w7.heap.size := HX7.out.lt
    go_upto_region 7 with (refine store_part 49 (by rfl) _ _ (by rfl) balR_size (i := 2) (by rfl) (by rfl) (cells := #[.int .u64 pc, .int .u8 pn, .int .u32 pl]) (by rfl) (by rfl) (by simp [Value.oneCell']) HX7.out (by rw [RecM.size']; omega) ?_; intro w8 HXW HGW HSW)
    have HX8 := hide_ (show BoxAt w8 z1 (RecM.box { kiRec 1 with ke := ke, pc := pc, pn := pn, pl := pl }) 54 from HXW.out)
    have HY8 := hide_ (show BoxAt w8 w.heap.size zeroRec.box 54 from box_far HGW.out HY7.out (by have := HZ1.out; omega))
    have HR8 := hide_ (HR7.out.other HGW.out (fun k e => by injection e with e; have := HGL.out; have := HZ1.out; omega))
    have HG8 := hide_ (grown_also HG7.out HGW.out (fun k e => by injection e with e; have := HZ1.out; omega))
    have HZ8 := hide_ (show w8.heap.size = w7.heap.size from HSW.out)
    clear hzx HXW HGW HSW HR7 HX7 HY7 HG7
    have hzx : z1 < w8.heap.size := HX8.out.lt
    go_wp2_with fail
    refine (BalGet_put HR8.out HBA.out HL2.out.2.1).mono ?_
    rintro en w9 ⟨rfl, hr, hg⟩
    have HR9 := hide_ hr
    have HX9 := hide_ (show BoxAt w9 z1 _ _ from box_far hg HX8.out (by have := HGL.out; have := HZ1.out; omega))
    have HY9 := hide_ (show BoxAt w9 w.heap.size zeroRec.box 54 from box_far hg HY8.out (by have := HGL.out; omega))
    have HG9 := hide_ (grown_join HG8.out hg)
    clear hr hg hzx HR8 HX8 HY8 HG8
    have hzx : z1 < w9.heap.size := HX9.out.lt
    go_upto_region 8 with (refine store_part 49 (by rfl) _ _ (by rfl) balR_size (i := 5) (by rfl) (by rfl) (cells := #[.int .u64 ac, .int .u8 an, .int .u32 al]) (by rfl) (by rfl) (by simp [Value.oneCell']) HX9.out (by rw [RecM.size']; omega) ?_; intro w10 HXW HGW HSW)
    have HX10 := hide_ (show BoxAt w10 z1 (RecM.box { kiRec 1 with ke := ke, pc := pc, pn := pn, pl := pl, ac := ac, an := an, al := al }) 54 from HXW.out)
    have HY10 := hide_ (show BoxAt w10 w.heap.size zeroRec.box 54 from box_far HGW.out HY9.out (by have := HZ1.out; omega))
    have HR10 := hide_ (HR9.out.other HGW.out (fun k e => by injection e with e; have := HGL.out; have := HZ1.out; omega))
    have HG10 := hide_ (grown_also HG9.out HGW.out (fun k e => by injection e with e; have := HZ1.out; omega))
    have HZ10 := hide_ (show w10.heap.size = w9.heap.size from HSW.out)
    clear hzx HXW HGW HSW HR9 HX9 HY9 HG9
    have hzx : z1 < w10.heap.size := HX10.out.lt
    go_wp2_with fail
    refine (RegGet_put HGET.out HR10.out HL2.out.2.2).mono ?_
    rintro en w11 ⟨y, rfl, hyp, hyo, hyl, hr, hg⟩
    have HYP := hide_ hyp
    have HZW := hide_ (show w.heap.size + 2 ≤ w10.heap.size from by have h1 := HG10.out.size; have h2 := HX10.out.lt; have h3 := HZ1.out; omega)
    have HR11 := hide_ hr
    have HX11 := hide_ (show BoxAt w11 z1 _ _ from box_far hg HX10.out (by have := HGL.out; have := HZ1.out; omega))
    have HY11 := hide_ (show BoxAt w11 w.heap.size zeroRec.box 54 from box_far hg HY10.out (by have := HGL.out; omega))
    have HG11 := hide_ (grown_join HG10.out hg)
    have HYO := hide_ hyo
    have HYZ := hide_ (hyl.more (show z1 + 1 ≤ w10.heap.size from HX10.out.lt) (Nat.le_refl _))
    have HYL := hide_ (hyl.more HZW.out (Nat.le_refl _))
    clear hr hg hzx HR10 HX10 HY10 HG10 hyp hyo hyl
    have hzx : z1 < w11.heap.size := HX11.out.lt
    have HRV := hide_ (show y.v = .agg y.cs.toArray from rfl)
    have HRN := hide_ (show y.cs.toArray.size = 8 from rfl)
    have HRO := hide_ (show y.cs.toArray.all (·.oneCell') = true from by simp [RegM.cs, Sl.v, Value.oneCell'])
    have HSP := hide_ (show splice (RecM.box { kiRec 1 with ke := ke, pc := pc, pn := pn, pl := pl, ac := ac, an := an, al := al }) 8 y.cs.toArray.toList = RecM.box { kiRec 1 with ke := ke, pc := pc, pn := pn, pl := pl, ac := ac, an := an, al := al, r := y } from rfl)
    obtain ⟨yc, hyc⟩ : ∃ c, y.cs.toArray = c := ⟨_, rfl⟩
    rw [hyc] at HRV HRN HRO HSP
    rw [HRV.out]
    clear hyc
    go_upto_region 17 with (refine store_part 31 (by rfl) _ _ (by rfl) regR_size (i := 8) (by rfl) (by rfl) (cells := yc) (by rfl) HRN.out HRO.out HX11.out (by rw [RecM.size']; omega) ?_; intro w12 HXW HGW HSW)
    have HX12 := hide_ HXW.out
    rw [HSP.out] at HX12
    have HY12 := hide_ (show BoxAt w12 w.heap.size zeroRec.box 54 from box_far HGW.out HY11.out (by have := HZ1.out; omega))
    have HR12 := hide_ (HR11.out.other HGW.out (fun k e => by injection e with e; have := HGL.out; have := HZ1.out; omega))
    have HG12 := hide_ (grown_also HG11.out HGW.out (fun k e => by injection e with e; have := HZ1.out; omega))
    have HF12 := hide_ (show RFresh w12 (w.heap.size + 2) { kiRec 1 with ke := ke, pc := pc, pn := pn, pl := pl, ac := ac, an := an, al := al, r := y } from ⟨Local.grown reg_local HYO.out HGW.out (fun k hk e => by injection e with e; have := (HYZ.out k hk).1; omega), HYL.out.more (Nat.le_refl _) HGW.out.size, CFresh.zero _ _⟩)
    clear hzx HXW HGW HSW HR11 HX11 HY11 HG11 HRV HRN HRO HSP
    have hzx : z1 < w12.heap.size := HX12.out.lt
    have hzy : w.heap.size < w12.heap.size := HY12.out.lt
    rw [← HYP.out] at HNM HFD
    have HFR := hide_ (show RFresh w12 (w.heap.size + 2) { kiRec 1 with ke := ke, pc := pc, pn := pn, pl := pl, ac := ac, an := an, al := al, r := y } from HF12.out)
    have HXP := hide_ (show RecM.p { kiRec 1 with ke := ke, pc := pc, pn := pn, pl := pl, ac := ac, an := an, al := al, r := y } = _ from Eq.trans (by rfl) HNM.out.symm)
    have HXE := hide_ (show BoxAt w12 z1 (RecM.box { kiRec 1 with ke := ke, pc := pc, pn := pn, pl := pl, ac := ac, an := an, al := al, r := y }) 54 from HX12.out)
    have HYE := hide_ HY12.out
    have HRE := hide_ HR12.out
    have HGE := hide_ HG12.out
    obtain ⟨x, hx⟩ : ∃ x, { kiRec 1 with ke := ke, pc := pc, pn := pn, pl := pl, ac := ac, an := an, al := al, r := y } = x := ⟨_, rfl⟩
    rw [hx] at HFR HXP HXE
    have HXV := hide_ (show x.v = .agg x.box from rfl)
    have HXS := hide_ x.size'
    have HXO := hide_ x.one'
    obtain ⟨xb, hxb⟩ : ∃ b, x.box = b := ⟨_, rfl⟩
    rw [hxb] at HXE HXV HXS HXO
    clear hx hxb
    go_wp2_with (first | (refine load_whole 54 (by rfl) _ (by rfl) rec_size rec_row HXE.out (by rfl) HXS.out ?_) | (refine store_whole 54 (by rfl) _ _ (by rfl) rec_size (by rfl) (by rfl) (cs := xb) (by rfl) HXS.out HXO.out HYE.out (by rfl) ?_; intro W9 HX9 HG9 HS9))
    refine bodyPost_ret (res_whole rec_size rec_row (by rfl) (by rfl) HX9.out HXS.out) rfl ?_
    exact HFD.out _ _ x (by rw [HXV.out]) HXP.out (HFR.out.box HYE.out (by omega) HG9.out) (HRE.out.other HG9.out (fun k e => by injection e with e; have := HGL.out; omega)) (grown_also HGE.out HG9.out (fun k e => by injection e with e; omega))
  · subst hk
    have HX4 := hide_ (show BoxAt W3 z1 (kiRec 2).box 54 from HX3.out)
    clear HX3 HK
    have HS := hide_ (show s1 = numB ke ++ t from HS1.out.symm.trans (by simp [bodyB]))
    rw [HS.out] at HR3 HL
    clear HS HS1
    have r0 := (HX4.out.cell 0).trans (show (kiRec 2).box[0]? = some (.int .u8 2) from rfl)
    have f0 := HX4.out.free9 0
    have hzx : z1 < W3.heap.size := HX4.out.lt
    go_wp2_with fail
    refine (smallR_put HR3.out hke HL.out).mono ?_
    rintro en w5 ⟨rfl, hr, hg⟩
    have HR5 := hide_ hr
    have HX5 := hide_ (show BoxAt w5 z1 _ _ from box_far hg HX4.out (by have := HGL.out; have := HZ1.out; omega))
    have HY5 := hide_ (show BoxAt w5 w.heap.size zeroRec.box 54 from box_far hg HY3.out (by have := HGL.out; omega))
    have HG5 := hide_ (grown_join HG4.out hg)
    clear hr hg r0 f0 hzx
    have hzx : z1 < w5.heap.size := HX5.out.lt
    have r0 := (HX5.out.cell 1).trans (show (kiRec 2).box[1]? = some (.int .u8 0) from rfl)
    have f0 := HX5.out.free9 1
    go_upto_region 17 with fail
    generalize hw6 : w5.setCell ⟨z1, 1, none⟩ (.int .u8 ke) = w6
    have HX6 := hide_ (show BoxAt w6 z1 (RecM.box { kiRec 2 with ke := ke }) 54 from hw6 ▸ HX5.out.set9 1 (.int .u8 ke))
    have HY6 := hide_ (show BoxAt w6 w.heap.size zeroRec.box 54 from hw6 ▸ box_apart HY5.out (by have := HZ1.out; omega))
    have HR6 := hide_ (show Rdr w6 g _ 0 from hw6 ▸ HR5.out.stored (by have := HZ1.out; have := HGL.out; omega))
    have HG6 := hide_ (show w.grownBy w6 (some g) from hw6 ▸ grown_stored HG5.out (by have := HZ1.out; omega))
    clear hw6 r0 f0 hzx HX5 HY5 HR5 HG5 HX4 HY3 HR3 HG4
    have hzx : z1 < w6.heap.size := HX6.out.lt
    have hzy : w.heap.size < w6.heap.size := HY6.out.lt
    have HFR := hide_ (show RFresh w6 (w.heap.size + 2) { kiRec 2 with ke := ke } from ⟨zeroM_ok _ _, zeroM_lies _ _, CFresh.zero _ _⟩)
    have HXP := hide_ (show RecM.p { kiRec 2 with ke := ke } = _ from Eq.trans (by rfl) HNM.out.symm)
    have HXE := hide_ (show BoxAt w6 z1 (RecM.box { kiRec 2 with ke := ke }) 54 from HX6.out)
    have HYE := hide_ HY6.out
    have HRE := hide_ HR6.out
    have HGE := hide_ HG6.out
    obtain ⟨x, hx⟩ : ∃ x, { kiRec 2 with ke := ke } = x := ⟨_, rfl⟩
    rw [hx] at HFR HXP HXE
    have HXV := hide_ (show x.v = .agg x.box from rfl)
    have HXS := hide_ x.size'
    have HXO := hide_ x.one'
    obtain ⟨xb, hxb⟩ : ∃ b, x.box = b := ⟨_, rfl⟩
    rw [hxb] at HXE HXV HXS HXO
    clear hx hxb
    go_wp2_with (first | (refine load_whole 54 (by rfl) _ (by rfl) rec_size rec_row HXE.out (by rfl) HXS.out ?_) | (refine store_whole 54 (by rfl) _ _ (by rfl) rec_size (by rfl) (by rfl) (cs := xb) (by rfl) HXS.out HXO.out HYE.out (by rfl) ?_; intro W9 HX9 HG9 HS9))
    refine bodyPost_ret (res_whole rec_size rec_row (by rfl) (by rfl) HX9.out HXS.out) rfl ?_
    exact HFD.out _ _ x (by rw [HXV.out]) HXP.out (HFR.out.box HYE.out (by omega) HG9.out) (HRE.out.other HG9.out (fun k e => by injection e with e; have := HGL.out; omega)) (grown_also HGE.out HG9.out (fun k e => by injection e with e; omega))
  · subst hk
    have HX4 := hide_ (show BoxAt W3 z1 (kiRec 3).box 54 from HX3.out)
    clear HX3 HK
    have HS := hide_ (show s1 = numB fe ++ t from HS1.out.symm.trans (by simp [bodyB]))
    rw [HS.out] at HR3 HL
    clear HS HS1
    have r0 := (HX4.out.cell 0).trans (show (kiRec 3).box[0]? = some (.int .u8 3) from rfl)
    have f0 := HX4.out.free9 0
    have hzx : z1 < W3.heap.size := HX4.out.lt
    go_wp2_with fail
    refine (Num_put 18446744073709551615 HR3.out (by have := HFE.out; unfold N64 at this; omega) (by have := HFE.out; unfold N64 at this; omega) HL.out).mono ?_
    rintro en w5 ⟨rfl, hr, hg⟩
    have HR5 := hide_ hr
    have HX5 := hide_ (show BoxAt w5 z1 _ _ from box_far hg HX4.out (by have := HGL.out; have := HZ1.out; omega))
    have HY5 := hide_ (show BoxAt w5 w.heap.size zeroRec.box 54 from box_far hg HY3.out (by have := HGL.out; omega))
    have HG5 := hide_ (grown_join HG4.out hg)
    clear hr hg r0 f0 hzx
    have hzx : z1 < w5.heap.size := HX5.out.lt
    have r0 := (HX5.out.cell 16).trans (show (kiRec 3).box[16]? = some (.int .u64 0) from rfl)
    have f0 := HX5.out.free9 16
    go_upto_region 17 with fail
    generalize hw6 : w5.setCell ⟨z1, 16, none⟩ (.int .u64 fe) = w6
    have HX6 := hide_ (show BoxAt w6 z1 (RecM.box { kiRec 3 with fe := fe }) 54 from hw6 ▸ HX5.out.set9 16 (.int .u64 fe))
    have HY6 := hide_ (show BoxAt w6 w.heap.size zeroRec.box 54 from hw6 ▸ box_apart HY5.out (by have := HZ1.out; omega))
    have HR6 := hide_ (show Rdr w6 g _ 0 from hw6 ▸ HR5.out.stored (by have := HZ1.out; have := HGL.out; omega))
    have HG6 := hide_ (show w.grownBy w6 (some g) from hw6 ▸ grown_stored HG5.out (by have := HZ1.out; omega))
    clear hw6 r0 f0 hzx HX5 HY5 HR5 HG5 HX4 HY3 HR3 HG4
    have hzx : z1 < w6.heap.size := HX6.out.lt
    have hzy : w.heap.size < w6.heap.size := HY6.out.lt
    have HFR := hide_ (show RFresh w6 (w.heap.size + 2) { kiRec 3 with fe := fe } from ⟨zeroM_ok _ _, zeroM_lies _ _, CFresh.zero _ _⟩)
    have HXP := hide_ (show RecM.p { kiRec 3 with fe := fe } = _ from Eq.trans (by rfl) HNM.out.symm)
    have HXE := hide_ (show BoxAt w6 z1 (RecM.box { kiRec 3 with fe := fe }) 54 from HX6.out)
    have HYE := hide_ HY6.out
    have HRE := hide_ HR6.out
    have HGE := hide_ HG6.out
    obtain ⟨x, hx⟩ : ∃ x, { kiRec 3 with fe := fe } = x := ⟨_, rfl⟩
    rw [hx] at HFR HXP HXE
    have HXV := hide_ (show x.v = .agg x.box from rfl)
    have HXS := hide_ x.size'
    have HXO := hide_ x.one'
    obtain ⟨xb, hxb⟩ : ∃ b, x.box = b := ⟨_, rfl⟩
    rw [hxb] at HXE HXV HXS HXO
    clear hx hxb
    go_wp2_with (first | (refine load_whole 54 (by rfl) _ (by rfl) rec_size rec_row HXE.out (by rfl) HXS.out ?_) | (refine store_whole 54 (by rfl) _ _ (by rfl) rec_size (by rfl) (by rfl) (cs := xb) (by rfl) HXS.out HXO.out HYE.out (by rfl) ?_; intro W9 HX9 HG9 HS9))
    refine bodyPost_ret (res_whole rec_size rec_row (by rfl) (by rfl) HX9.out HXS.out) rfl ?_
    exact HFD.out _ _ x (by rw [HXV.out]) HXP.out (HFR.out.box HYE.out (by omega) HG9.out) (HRE.out.other HG9.out (fun k e => by injection e with e; have := HGL.out; omega)) (grown_also HGE.out HG9.out (fun k e => by injection e with e; omega))
  · subst hk
    have HX4 := hide_ (show BoxAt W3 z1 (kiRec 4).box 54 from HX3.out)
    clear HX3 HK
    have HS := hide_ (show s1 = numB li ++ t from HS1.out.symm.trans (by simp [bodyB]))
    rw [HS.out] at HR3 HL
    clear HS HS1
    have r0 := (HX4.out.cell 0).trans (show (kiRec 4).box[0]? = some (.int .u8 4) from rfl)
    have f0 := HX4.out.free9 0
    have hzx : z1 < W3.heap.size := HX4.out.lt
    go_wp2_with fail
    refine (Num_put 4294967295 HR3.out (by have := HLI.out; unfold N32 at this; omega) (by have := HLI.out; unfold N32 at this; omega) HL.out).mono ?_
    rintro en w5 ⟨rfl, hr, hg⟩
    have HR5 := hide_ hr
    have HX5 := hide_ (show BoxAt w5 z1 _ _ from box_far hg HX4.out (by have := HGL.out; have := HZ1.out; omega))
    have HY5 := hide_ (show BoxAt w5 w.heap.size zeroRec.box 54 from box_far hg HY3.out (by have := HGL.out; omega))
    have HG5 := hide_ (grown_join HG4.out hg)
    clear hr hg r0 f0 hzx
    have hzx : z1 < w5.heap.size := HX5.out.lt
    have r0 := (HX5.out.cell 17).trans (show (kiRec 4).box[17]? = some (.int .u32 0) from rfl)
    have f0 := HX5.out.free9 17
    have hli32 : li ≤ 4294967295 := HLI.out
    go_upto_region 17 with fail
    generalize hw6 : w5.setCell ⟨z1, 17, none⟩ (.int .u32 li) = w6
    have HX6 := hide_ (show BoxAt w6 z1 (RecM.box { kiRec 4 with li := li }) 54 from hw6 ▸ HX5.out.set9 17 (.int .u32 li))
    have HY6 := hide_ (show BoxAt w6 w.heap.size zeroRec.box 54 from hw6 ▸ box_apart HY5.out (by have := HZ1.out; omega))
    have HR6 := hide_ (show Rdr w6 g _ 0 from hw6 ▸ HR5.out.stored (by have := HZ1.out; have := HGL.out; omega))
    have HG6 := hide_ (show w.grownBy w6 (some g) from hw6 ▸ grown_stored HG5.out (by have := HZ1.out; omega))
    clear hw6 r0 f0 hzx HX5 HY5 HR5 HG5 HX4 HY3 HR3 HG4
    have hzx : z1 < w6.heap.size := HX6.out.lt
    have hzy : w.heap.size < w6.heap.size := HY6.out.lt
    have HFR := hide_ (show RFresh w6 (w.heap.size + 2) { kiRec 4 with li := li } from ⟨zeroM_ok _ _, zeroM_lies _ _, CFresh.zero _ _⟩)
    have HXP := hide_ (show RecM.p { kiRec 4 with li := li } = _ from Eq.trans (by rfl) HNM.out.symm)
    have HXE := hide_ (show BoxAt w6 z1 (RecM.box { kiRec 4 with li := li }) 54 from HX6.out)
    have HYE := hide_ HY6.out
    have HRE := hide_ HR6.out
    have HGE := hide_ HG6.out
    obtain ⟨x, hx⟩ : ∃ x, { kiRec 4 with li := li } = x := ⟨_, rfl⟩
    rw [hx] at HFR HXP HXE
    have HXV := hide_ (show x.v = .agg x.box from rfl)
    have HXS := hide_ x.size'
    have HXO := hide_ x.one'
    obtain ⟨xb, hxb⟩ : ∃ b, x.box = b := ⟨_, rfl⟩
    rw [hxb] at HXE HXV HXS HXO
    clear hx hxb
    go_wp2_with (first | (refine load_whole 54 (by rfl) _ (by rfl) rec_size rec_row HXE.out (by rfl) HXS.out ?_) | (refine store_whole 54 (by rfl) _ _ (by rfl) rec_size (by rfl) (by rfl) (cs := xb) (by rfl) HXS.out HXO.out HYE.out (by rfl) ?_; intro W9 HX9 HG9 HS9))
    refine bodyPost_ret (res_whole rec_size rec_row (by rfl) (by rfl) HX9.out HXS.out) rfl ?_
    exact HFD.out _ _ x (by rw [HXV.out]) HXP.out (HFR.out.box HYE.out (by omega) HG9.out) (HRE.out.other HG9.out (fun k e => by injection e with e; have := HGL.out; omega)) (grown_also HGE.out HG9.out (fun k e => by injection e with e; omega))
  · subst hk
    have HX4 := hide_ (show BoxAt W3 z1 (kiRec 5).box 54 from HX3.out)
    clear HX3 HK
    have HS := hide_ (show s1 = confB cf ++ t from HS1.out.symm.trans (by simp [bodyB]))
    rw [HS.out] at HR3 HL
    clear HS HS1
    have r0 := (HX4.out.cell 0).trans (show (kiRec 5).box[0]? = some (.int .u8 5) from rfl)
    have f0 := HX4.out.free9 0
    have hzx : z1 < W3.heap.size := HX4.out.lt
    go_wp2_with fail
    refine (confGet_put cf t g W3 HCC.out HCO.out HCN.out (HCM.out (by first | trivial | rfl)) HR3.out HL.out).mono ?_
    rintro en w5 ⟨y, rfl, hyp, hyf, hr, hg⟩
    have HYP := hide_ hyp
    have HYF := hide_ (hyf.less HZB.out)
    clear hyp hyf
    have HR5 := hide_ hr
    have HX5 := hide_ (show BoxAt w5 z1 _ _ from box_far hg HX4.out (by have := HGL.out; have := HZ1.out; omega))
    have HY5 := hide_ (show BoxAt w5 w.heap.size zeroRec.box 54 from box_far hg HY3.out (by have := HGL.out; omega))
    have HG5 := hide_ (grown_join HG4.out hg)
    clear hr hg r0 f0 hzx
    have hzx : z1 < w5.heap.size := HX5.out.lt
    have HRV := hide_ (show y.v = .agg y.cs.toArray from rfl)
    have HRN := hide_ (show y.cs.toArray.size = 3 from rfl)
    have HRO := hide_ (show y.cs.toArray.all (·.oneCell') = true from by simp [CfM.cs, NdM.v, Value.oneCell'])
    have HSP := hide_ (show splice (RecM.box (kiRec 5)) 18 y.cs.toArray.toList = RecM.box { kiRec 5 with cf := y } from rfl)
    obtain ⟨yc, hyc⟩ : ∃ c, y.cs.toArray = c := ⟨_, rfl⟩
    rw [hyc] at HRV HRN HRO HSP
    rw [HRV.out]
    clear hyc
    go_upto_region 17 with (refine store_part 52 (by rfl) _ _ (by rfl) cfR_size (i := 18) (by rfl) (by rfl) (cells := yc) (by rfl) HRN.out HRO.out HX5.out (by rw [RecM.size']; omega) ?_; intro w6 HXW HGW HSW)
    have HX6 := hide_ HXW.out
    rw [HSP.out] at HX6
    have HY6 := hide_ (show BoxAt w6 w.heap.size zeroRec.box 54 from box_far HGW.out HY5.out (by have := HZ1.out; omega))
    have HR6 := hide_ (HR5.out.other HGW.out (fun k e => by injection e with e; have := HGL.out; have := HZ1.out; omega))
    have HG6 := hide_ (grown_also HG5.out HGW.out (fun k e => by injection e with e; have := HZ1.out; omega))
    have HF6 := hide_ (show RFresh w6 (w.heap.size + 2) { kiRec 5 with cf := y } from ⟨zeroM_ok _ _, zeroM_lies _ _, HYF.out.box HX5.out (by decide) HGW.out⟩)
    clear hzx HXW HGW HSW HX5 HY5 HR5 HG5 HX4 HY3 HR3 HG4 HRV HRN HRO HSP
    have hzx : z1 < w6.heap.size := HX6.out.lt
    have hzy : w.heap.size < w6.heap.size := HY6.out.lt
    rw [← HYP.out] at HNM HFD
    have HFR := hide_ (show RFresh w6 (w.heap.size + 2) { kiRec 5 with cf := y } from HF6.out)
    have HXP := hide_ (show RecM.p { kiRec 5 with cf := y } = _ from Eq.trans (by rfl) HNM.out.symm)
    have HXE := hide_ (show BoxAt w6 z1 (RecM.box { kiRec 5 with cf := y }) 54 from HX6.out)
    have HYE := hide_ HY6.out
    have HRE := hide_ HR6.out
    have HGE := hide_ HG6.out
    obtain ⟨x, hx⟩ : ∃ x, { kiRec 5 with cf := y } = x := ⟨_, rfl⟩
    rw [hx] at HFR HXP HXE
    have HXV := hide_ (show x.v = .agg x.box from rfl)
    have HXS := hide_ x.size'
    have HXO := hide_ x.one'
    obtain ⟨xb, hxb⟩ : ∃ b, x.box = b := ⟨_, rfl⟩
    rw [hxb] at HXE HXV HXS HXO
    clear hx hxb
    go_wp2_with (first | (refine load_whole 54 (by rfl) _ (by rfl) rec_size rec_row HXE.out (by rfl) HXS.out ?_) | (refine store_whole 54 (by rfl) _ _ (by rfl) rec_size (by rfl) (by rfl) (cs := xb) (by rfl) HXS.out HXO.out HYE.out (by rfl) ?_; intro W9 HX9 HG9 HS9))
    refine bodyPost_ret (res_whole rec_size rec_row (by rfl) (by rfl) HX9.out HXS.out) rfl ?_
    exact HFD.out _ _ x (by rw [HXV.out]) HXP.out (HFR.out.box HYE.out (by omega) HG9.out) (HRE.out.other HG9.out (fun k e => by injection e with e; have := HGL.out; omega)) (grown_also HGE.out HG9.out (fun k e => by injection e with e; omega))

/-- what a call leaves that gets a record -/
def GotR (p : RecP) (w : World) (e : Ending) (w' : World) : Prop :=
  ∃ x : RecM, e = .returned (.tuple #[x.v, .int .i64 0]) ∧ x.p = p ∧ RecM.good w' w'.heap.size x ∧ Below w.heap.size w w'
theorem RecP.snd.ok {p : RecP} {x : RecM} (hp : p.snd) (h : x.p = p) : x.ok' := by
  subst h
  exact ⟨hp.nk, hp.bp, hp.ba, hp.fe, hp.li⟩
theorem RFresh.good {w : World} {lo : Nat} {x : RecM} (h : RFresh w lo x) (hk : x.ok') : RecM.good w w.heap.size x := ⟨hk, h.reg, h.cf.ok⟩

set_option maxRecDepth 100000 in
set_option maxHeartbeats 6400000 in
theorem recGet_good (l : List UInt8) (p : RecP) (B : Nat) (A : Option Addr) (n c : Nat) (w : World) (hp : p.snd) (hl : recB p = l) (hn : l.length = n) (hs : Sees w B A (bv l)) (hB : B ≤ w.heap.size) :
    Calls Tryz.prog 22 #[.slice A n c] w (GotR p w) := by
  have HTK := hide_ (fun (g : Nat) (u : World) (h : Rdr u g l 0) => take_rec p [] g u hp (by rw [List.append_nil, hl]; exact h) (by rw [List.append_nil]; have := hp.len; omega))
  have HOK := hide_ (fun (x : RecM) (h : x.p = p) => hp.ok h)
  have HMY := hide_ (fun (x : RecM) (u : World) (h : x.p = p) (hx : RecM.good u u.heap.size x) => show Calls Tryz.prog 20 #[x.v] u fun e w' => e = .returned (.bool true) ∧ Below u.heap.size u w' from by have g := mayRec_any x u.heap.size u hx (Nat.le_refl _); rw [h, hp.may] at g; exact g)
  have HN := hide_ hn
  have HNN := hide_ (show n ≤ 2048 from by have := hp.len; rw [hl] at this; omega)
  have HS := hide_ (fun (u : World) (h : Below w.heap.size w u) => (⟨hs.below (h.mono hB), Nat.le_trans hB h.size⟩ : Sees u B A (bv l) ∧ B ≤ u.heap.size))
  clear hp hl hn hs hB
  go_enter Tryz.func22, Tryz.ntmps22
  go_wp2_with (refine alloc_whole 54 (by rfl) (by rfl) rec_info ?_; intro W0 HY0 HB0 HZ0)
  have hz0 : w.heap.size < W0.heap.size := HY0.out.lt
  refine (New_any l B A n c W0 HN.out (HS.out _ HB0.out).1 (HS.out _ HB0.out).2 (by have := HNN.out; omega)).mono ?_
  rintro en w1 ⟨g, rfl, hg, hr1, hb1⟩
  have HB1 := hide_ (HB0.out.trans (hb1.mono HB0.out.size))
  have HY1 := hide_ (HY0.out.below hb1)
  have HR1 := hide_ hr1
  have HG := hide_ (show w.heap.size < g from Nat.lt_of_lt_of_le HY0.out.lt hg)
  clear hg hr1 hb1 HY0 HB0 HZ0 hz0
  go_wp2_with fail
  refine (HTK.out g w1 HR1.out).mono ?_
  rintro en w2 ⟨x, rfl, hxp, hxf, hr2, hg2⟩
  have HXP := hide_ hxp
  have HXF := hide_ (show RFresh w2 (w.heap.size + 1) x from hxf.less (by have := HY1.out.lt; omega))
  have HR2 := hide_ hr2
  have HY2 := hide_ (show BoxAt w2 w.heap.size zeroRec.box 54 from box_far hg2 HY1.out (by have := HG.out; omega))
  have HB2 := hide_ (HB1.out.grown hg2 HB1.out.size fun j hj => by injection hj with hj; have := HG.out; omega)
  have HOX := hide_ (HOK.out x hxp)
  clear hxp hxf hr2 hg2 HR1 HY1 HB1 HTK HOK
  have HXS := hide_ x.size'
  have HXO := hide_ x.one'
  have HXV := hide_ (show x.v = .agg x.box from rfl)
  have HMX := hide_ (fun (u : World) (hx : RecM.good u u.heap.size x) => HMY.out x u HXP.out hx)
  obtain ⟨xb, hxb⟩ : ∃ b, x.box = b := ⟨_, rfl⟩
  rw [hxb] at HXS HXO HXV
  simp only [HXV.out] at HMX
  rw [HXV.out]
  have HXB := hide_ hxb
  clear hxb HMY
  go_upto_region 3 with (first | (refine alloc_whole 54 (by rfl) (by rfl) rec_info ?_; intro W3 HX3 HB3 HS3) | (refine store_whole 54 (by rfl) _ _ (by rfl) rec_size (by rfl) (by rfl) (cs := xb) (by rfl) HXS.out HXO.out HX3.out (by rfl) ?_; intro W4 HX4 HG4 HS4))
  have HLT := hide_ (show g < w2.heap.size from HR2.out.glt)
  have HBW := hide_ (show Below w2.heap.size w2 W4 from HB3.out.grown HG4.out HB3.out.size fun j hj => by injection hj with hj; omega)
  have HR4 := hide_ (HR2.out.below HBW.out)
  have HY4 := hide_ (HY2.out.below HBW.out)
  have HF4 := hide_ (HXF.out.below HBW.out)
  have HB4 := hide_ (HB2.out.trans (HBW.out.mono HB2.out.size))
  obtain ⟨z5, hz5⟩ : ∃ z, w2.heap.size = z := ⟨_, rfl⟩
  rw [hz5] at HX4 ⊢
  clear hz5 HX3 HB3 HS3 HG4 HS4 HBW HR2 HY2 HXF HB2 HLT
  have hzx : z5 < W4.heap.size := HX4.out.lt
  go_wp2_with fail
  refine (End_st (s := ([], 0)) HR4.out).mono ?_
  rintro en w5 ⟨rfl, rfl⟩
  rw [show endS (([] : List UInt8), 0) = 0 from rfl]
  go_wp2_with (refine load_whole 54 (by rfl) _ (by rfl) rec_size rec_row HX4.out (by rfl) HXS.out ?_)
  refine (HMX.out _ (HF4.out.good HOX.out)).mono ?_
  rintro en w6 ⟨rfl, hb6⟩
  have HB6 := hide_ (HB4.out.trans (hb6.mono HB4.out.size))
  have HX6 := hide_ (HX4.out.below hb6)
  have HY6 := hide_ (HY4.out.below hb6)
  have HF6 := hide_ (HF4.out.below hb6)
  clear hb6 hzx HX4 HY4 HF4 HB4 HMX
  have hzx : z5 < w6.heap.size := HX6.out.lt
  have hzy : w.heap.size < w6.heap.size := HY6.out.lt
  go_wp2_with (first | (refine load_whole 54 (by rfl) _ (by rfl) rec_size rec_row HX6.out (by rfl) HXS.out ?_) | (refine store_whole 54 (by rfl) _ _ (by rfl) rec_size (by rfl) (by rfl) (cs := xb) (by rfl) HXS.out HXO.out HY6.out (by rfl) ?_; intro W7 HX7 HG7 HS7))
  refine bodyPost_ret (v := .tuple #[.agg xb, .int .i64 0]) (res_whole2 rec_size rec_row (by rfl) (by rfl) (by rfl) HX7.out HXS.out) rfl ?_
  exact ⟨x, by rw [HXV.out], HXP.out, (HF6.out.box HY6.out (by omega) HG7.out).good HOX.out, HB6.out.grown HG7.out HB6.out.size fun j hj => by injection hj with hj; omega⟩
end Go.Proofs.YtnkjdijbfnmnhaaGreat
