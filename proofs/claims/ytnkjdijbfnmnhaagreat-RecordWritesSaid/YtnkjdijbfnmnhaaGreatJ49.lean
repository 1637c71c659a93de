/-
  Texts of this claim put together: Sta14, Open14, Sam14, Gb14.
-/
import Derived.Test.YtnkjdijbfnmnhaaGreatJ47
import Derived.Test.YtnkjdijbfnmnhaaGreatJ43
import Derived.Test.YtnkjdijbfnmnhaaGreatJ44
import Derived.Test.YtnkjdijbfnmnhaaGreatJ05
import Derived.Test.YtnkjdijbfnmnhaaGreatJ37
import Derived.Test.YtnkjdijbfnmnhaaGreatJ13
import Derived.Test.YtnkjdijbfnmnhaaGreatJ36
import Derived.Test.YtnkjdijbfnmnhaaGreatShort
import Derived.Deep.RegionHeld
import Derived.Test.YtnkjdijbfnmnhaaGreatJ46
import Derived.Test.YtnkjdijbfnmnhaaGreatJ45
import Derived.Deep.DeepCutAuto
/-
  What an acceptor knows, in memory: its cells, and what becomes of them where a part is written.
-/
namespace Go.Proofs.YtnkjdijbfnmnhaaGreat
open Go.RowKit

/-- what is known of a key -/
structure SlotM where
  ha : Bool
  pc : Nat
  pn : Nat
  pl : Nat
  ac : Nat
  an : Nat
  al : Nat
  r : RegM
structure SlotP where
  ha : Bool
  pc : Nat
  pn : Nat
  pl : Nat
  ac : Nat
  an : Nat
  al : Nat
  r : RegP
deriving DecidableEq
def SlotM.p (m : SlotM) : SlotP := ⟨m.ha, m.pc, m.pn, m.pl, m.ac, m.an, m.al, m.r.p⟩
def SlotM.box (m : SlotM) : Array Value := #[.bool m.ha, .int .u64 m.pc, .int .u8 m.pn, .int .u32 m.pl, .int .u64 m.ac, .int .u8 m.an, .int .u32 m.al, .int .u8 m.r.ki, .int .u64 m.r.inc, .int .i64 m.r.st, .slice m.r.va.A m.r.va.l.length m.r.va.c, .slice m.r.dn.A m.r.dn.l.length m.r.dn.c, .slice m.r.ou.A m.r.ou.l.length m.r.ou.c, .int .u64 m.r.la, .slice m.r.ma.A m.r.ma.l.length m.r.ma.c]
def SlotM.v (m : SlotM) : Value := .agg m.box
def SlotM.num (m : SlotM) : Prop := BalIn m.pc m.pn m.pl ∧ BalIn m.ac m.an m.al
def SlotM.good (w : World) (B : Nat) (m : SlotM) : Prop := m.num ∧ RegM.ok w B m.r
def zeroSl : SlotM := ⟨false, 0, 0, 0, 0, 0, 0, zeroM⟩
def zeroSP : SlotP := ⟨false, 0, 0, 0, 0, 0, 0, zeroP⟩
theorem slot_row : ∃ d, Tryz.prog.underlying 72 = some d ∧ d.isRow = true := ⟨_, Tryz.underlying72, rfl⟩
theorem slot_size : (Tryz.prog.info? 72).map (·.size) = some 15 := by kernel_rfl
theorem reg_row : ∃ d, Tryz.prog.underlying 31 = some d ∧ d.isRow = true := ⟨_, Tryz.underlying31, rfl⟩
theorem conf_row : ∃ d, Tryz.prog.underlying 52 = some d ∧ d.isRow = true := ⟨_, Tryz.underlying52, rfl⟩
theorem conf_size : (Tryz.prog.info? 52).map (·.size) = some 3 := by kernel_rfl
def RegM.bx (r : RegM) : List Value := r.cs
def SlotM.hd (m : SlotM) : List Value := [.bool m.ha, .int .u64 m.pc, .int .u8 m.pn, .int .u32 m.pl, .int .u64 m.ac, .int .u8 m.an, .int .u32 m.al]
def SlotM.cs (m : SlotM) : List Value := m.hd ++ m.r.cs
theorem SlotM.cs_box (m : SlotM) : m.cs = m.box.toList := rfl
theorem SlotM.cs_len (m : SlotM) : m.cs.length = 15 := rfl
theorem RegM.cs_len (m : RegM) : m.cs.length = 8 := rfl
theorem CfM.cs_len (m : CfM) : m.cs.length = 3 := rfl

/-- what an acceptor knows -/
structure StaM where
  f : Nat → SlotM
  fe : Nat
  li : Nat
  cf : CfM
structure StaP where
  f : Nat → SlotP
  fe : Nat
  li : Nat
  cf : CfP
def StaM.p (s : StaM) : StaP := ⟨fun i => (s.f i).p, s.fe, s.li, s.cf.p⟩
def slotsL (f : Nat → SlotM) (s n : Nat) : List Value := (List.range' s n).flatMap fun i => (f i).cs
def StaM.tl (s : StaM) : List Value := [.int .u64 s.fe, .int .u32 s.li] ++ s.cf.cs
def StaM.L (s : StaM) : List Value := slotsL s.f 0 16 ++ s.tl
def StaM.box (s : StaM) : Array Value := s.L.toArray
def StaM.v (s : StaM) : Value := .agg s.box
def zeroSt : StaM := ⟨fun _ => zeroSl, 0, 0, zeroCf⟩
def zeroSTP : StaP := ⟨fun _ => zeroSP, 0, 0, (0, [], [])⟩
theorem zeroSt_p : zeroSt.p = zeroSTP := rfl
theorem sta_row : ∃ d, Tryz.prog.underlying 75 = some d ∧ d.isRow = true := ⟨_, Tryz.underlying75, rfl⟩
theorem sta_size : (Tryz.prog.info? 75).map (·.size) = some 245 := by kernel_rfl
theorem sta_zero : (Tryz.prog.info? 75).map (fun i => (i.zero, i.size)) = some (some (.agg zeroSt.box), 245) := by kernel_rfl

theorem slotsL_len (f : Nat → SlotM) : ∀ (n s : Nat), (slotsL f s n).length = n * 15
  | 0, s => rfl
  | n + 1, s => by
    rw [slotsL, List.range'_succ, List.flatMap_cons, List.length_append]
    have := slotsL_len f n (s + 1)
    rw [slotsL] at this
    rw [this, (f s).cs_len, Nat.succ_mul]
    omega
theorem slotsL_add (f : Nat → SlotM) (s m n : Nat) : slotsL f s (m + n) = slotsL f s m ++ slotsL f (s + m) n := by
  rw [slotsL, ← List.range'_append_1, List.flatMap_append]
  rfl
theorem slotsL_one (f : Nat → SlotM) (s : Nat) : slotsL f s 1 = (f s).cs := by simp [slotsL]
theorem slotsL_congr {f g : Nat → SlotM} {s n : Nat} (h : ∀ i, s ≤ i → i < s + n → f i = g i) : slotsL f s n = slotsL g s n := by
  unfold slotsL
  rw [List.flatMap_def, List.flatMap_def]
  congr 1
  refine List.map_congr_left fun i hi => ?_
  rw [List.mem_range'_1] at hi
  rw [h i hi.1 hi.2]
/-- the cells ahead of a key's slot, and behind it -/
def StaM.pre (s : StaM) (i : Nat) : List Value := slotsL s.f 0 i
def StaM.post (s : StaM) (i : Nat) : List Value := slotsL s.f (i + 1) (15 - i) ++ s.tl
theorem StaM.pre_len (s : StaM) (i : Nat) : (s.pre i).length = i * 15 := slotsL_len s.f i 0
theorem StaM.L_at (s : StaM) {i : Nat} (h : i < 16) : s.L = s.pre i ++ (s.f i).cs ++ s.post i := by
  unfold StaM.L StaM.pre StaM.post
  have e : 16 = i + (1 + (15 - i)) := by omega
  rw [show slotsL s.f 0 16 = slotsL s.f 0 (i + (1 + (15 - i))) from by rw [← e], slotsL_add, slotsL_add, slotsL_one, Nat.zero_add]
  simp [List.append_assoc]
theorem StaM.L_len (s : StaM) : s.L.length = 245 := by
  unfold StaM.L
  rw [List.length_append, slotsL_len]
  rfl
theorem StaM.box_size (s : StaM) : s.box.size = 245 := by
  unfold StaM.box
  rw [List.size_toArray, s.L_len]

theorem ext_mid (a m b : List Value) (i n : Nat) (hi : a.length = i) (hn : m.length = n) : (a ++ m ++ b).toArray.extract i (i + n) = m.toArray := by
  rw [List.extract_toArray, List.append_assoc]
  congr 1
  rw [List.extract_eq_take_drop, List.drop_append_of_le_length (by omega), List.drop_of_length_le (by omega), List.nil_append, Nat.add_sub_cancel_left, List.take_append_of_le_length (by omega), List.take_of_length_le (by omega)]
theorem splice_mid (a m b v : List Value) (i : Nat) (hi : a.length = i) (hv : v.length = m.length) : splice (a ++ m ++ b).toArray i v = (a ++ v ++ b).toArray := by
  unfold splice
  congr 1
  rw [List.append_assoc a m b, List.take_append_of_le_length (by omega), List.take_of_length_le (by omega), hv]
  congr 1
  rw [← List.append_assoc, List.drop_append_of_le_length (by simp; omega), List.drop_of_length_le (by simp; omega), List.nil_append]

def StaM.setF (s : StaM) (i : Nat) (x : SlotM) : StaM := { s with f := fun j => if j = i then x else s.f j }
theorem StaM.setF_L (s : StaM) {i : Nat} (h : i < 16) (x : SlotM) : (s.setF i x).L = s.pre i ++ x.cs ++ s.post i := by
  rw [(s.setF i x).L_at h]
  have e1 : (s.setF i x).pre i = s.pre i := slotsL_congr fun j h1 h2 => if_neg (show ¬ j = i from by omega)
  have e2 : (s.setF i x).post i = s.post i := by
    unfold StaM.post
    rw [show slotsL (s.setF i x).f (i + 1) (15 - i) = slotsL s.f (i + 1) (15 - i) from slotsL_congr fun j h1 h2 => if_neg (show ¬ j = i from by omega)]
    rfl
  have e3 : (s.setF i x).f i = x := if_pos rfl
  rw [e1, e2, e3]
/-- a slot is read, a slot is written -/
theorem StaM.slot_get (s : StaM) {i : Nat} (h : i < 16) : s.box.extract (i * 15) (i * 15 + 15) = (s.f i).box := by
  unfold StaM.box
  rw [s.L_at h, ext_mid _ _ _ _ _ (s.pre_len i) (s.f i).cs_len, SlotM.cs_box]
theorem StaM.slot_set (s : StaM) {i : Nat} (h : i < 16) (x : SlotM) : splice s.box (i * 15) x.cs = (s.setF i x).box := by
  unfold StaM.box
  rw [s.L_at h, splice_mid _ _ _ _ _ (s.pre_len i) (by rw [x.cs_len, (s.f i).cs_len]), s.setF_L h]
/-- a slot's register -/
theorem StaM.reg_split (s : StaM) {i : Nat} (h : i < 16) : s.L = (s.pre i ++ (s.f i).hd) ++ (s.f i).r.cs ++ s.post i := by
  rw [s.L_at h, SlotM.cs]
  simp [List.append_assoc]
theorem StaM.reg_get (s : StaM) {i : Nat} (h : i < 16) : s.box.extract (i * 15 + 7) (i * 15 + 7 + 8) = (s.f i).r.cs.toArray := by
  unfold StaM.box
  rw [s.reg_split h, ext_mid _ _ _ _ _ (by rw [List.length_append, s.pre_len]; rfl) (s.f i).r.cs_len]
def StaM.setR (s : StaM) (i : Nat) (r : RegM) : StaM := s.setF i { s.f i with r := r }
theorem StaM.reg_set (s : StaM) {i : Nat} (h : i < 16) (r : RegM) : splice s.box (i * 15 + 7) r.cs = (s.setR i r).box := by
  unfold StaM.box
  rw [s.reg_split h, splice_mid _ _ _ _ _ (by rw [List.length_append, s.pre_len]; rfl) (by rw [r.cs_len, (s.f i).r.cs_len]), StaM.setR, s.setF_L h]
  show _ = (s.pre i ++ ((s.f i).hd ++ r.cs) ++ s.post i).toArray
  simp [List.append_assoc]
/-- what stands behind the slots -/
theorem StaM.cell_fe (s : StaM) : s.box[240]? = some (.int .u64 s.fe) := by
  unfold StaM.box StaM.L
  rw [List.getElem?_toArray, List.getElem?_append_right (by rw [slotsL_len]; omega), slotsL_len]
  rfl
theorem StaM.cell_li (s : StaM) : s.box[241]? = some (.int .u32 s.li) := by
  unfold StaM.box StaM.L
  rw [List.getElem?_toArray, List.getElem?_append_right (by rw [slotsL_len]; omega), slotsL_len]
  rfl
theorem StaM.cf_split (s : StaM) : s.L = (slotsL s.f 0 16 ++ [.int .u64 s.fe, .int .u32 s.li]) ++ s.cf.cs ++ [] := by
  unfold StaM.L StaM.tl
  simp [List.append_assoc]
theorem StaM.cf_get (s : StaM) : s.box.extract 242 (242 + 3) = s.cf.cs.toArray := by
  unfold StaM.box
  rw [s.cf_split, ext_mid _ _ _ _ _ (by rw [List.length_append, slotsL_len]; rfl) s.cf.cs_len]
theorem StaM.cf_set (s : StaM) (c : CfM) : splice s.box 242 c.cs = { s with cf := c }.box := by
  unfold StaM.box
  rw [s.cf_split, splice_mid _ _ _ _ _ (by rw [List.length_append, slotsL_len]; rfl) (by rw [c.cs_len, s.cf.cs_len]), StaM.cf_split]
theorem set_mid (a b : List Value) (m v : Value) (i : Nat) (hi : a.length = i) : (a ++ m :: b).toArray.setIfInBounds i v = (a ++ v :: b).toArray := by
  rw [List.setIfInBounds_toArray, List.set_append_right _ _ (by omega), hi, Nat.sub_self]
  rfl
theorem StaM.fe_set (s : StaM) (n : Nat) : s.box.setIfInBounds 240 (.int .u64 n) = { s with fe := n }.box := by
  unfold StaM.box StaM.L StaM.tl
  exact set_mid _ _ _ _ _ (by rw [slotsL_len])
theorem StaM.li_set (s : StaM) (n : Nat) : s.box.setIfInBounds 241 (.int .u32 n) = { s with li := n }.box := by
  unfold StaM.box StaM.L StaM.tl
  have := set_mid (slotsL s.f 0 16 ++ [.int .u64 s.fe]) s.cf.cs (.int .u32 s.li) (.int .u32 n) 241 (by rw [List.length_append, slotsL_len]; rfl)
  simpa [List.append_assoc] using this
theorem slotsL_one' {f : Nat → SlotM} {s n : Nat} : ∀ u ∈ slotsL f s n, u.oneCell' = true := fun u hu => by
  obtain ⟨i, _, hi⟩ := List.mem_flatMap.1 hu
  have : u ∈ (f i).cs := hi
  simp [SlotM.cs, SlotM.hd, RegM.cs, Sl.v] at this
  rcases this with h | h | h | h | h | h | h | h | h | h | h | h | h | h | h <;> subst h <;> rfl
theorem StaM.one (s : StaM) : s.box.all (·.oneCell') = true := by
  unfold StaM.box
  refine all_oneCell_toArray fun u hu => ?_
  rcases List.mem_append.1 hu with h | h
  · exact slotsL_one' u h
  · simp [StaM.tl, CfM.cs, NdM.v] at h
    rcases h with h | h | h | h | h <;> subst h <;> rfl

/-- few enough to be gone through -/
def RegM.few (r : RegM) : Prop := (r.va.l.length ≤ 50 ∧ r.dn.l.length ≤ 50 ∧ r.ou.l.length ≤ 50 ∧ r.ma.l.length ≤ 50) ∧ ∀ d ∈ r.dn.l, d.va.l.length ≤ 50
structure StaM.good (w : World) (B : Nat) (s : StaM) : Prop where
  sl : ∀ i, i < 16 → SlotM.good w B (s.f i) ∧ (s.f i).r.few
  fe : N64 s.fe
  li : N32 s.li
  cf : CfM.ok w B s.cf
theorem StaM.good.below {w w' : World} {B : Nat} {s : StaM} (h : StaM.good w B s) (hb : Below B w w') : StaM.good w' B s :=
  ⟨fun i hi => ⟨⟨(h.sl i hi).1.1, reg_stable.below (h.sl i hi).1.2 hb⟩, (h.sl i hi).2⟩, h.fe, h.li, h.cf.below hb⟩
theorem StaM.good.more {w : World} {B B' : Nat} {s : StaM} (h : StaM.good w B s) (hb : B ≤ B') : StaM.good w B' s :=
  ⟨fun i hi => ⟨⟨(h.sl i hi).1.1, reg_stable.more (h.sl i hi).1.2 hb⟩, (h.sl i hi).2⟩, h.fe, h.li, h.cf.more hb⟩
theorem zeroSt_good (w : World) (B : Nat) : StaM.good w B zeroSt :=
  ⟨fun i _ => ⟨⟨by simp [SlotM.num, zeroSt, zeroSl, BalIn, N64], zeroM_ok w B⟩, by simp [RegM.few, zeroSt, zeroSl, zeroM]⟩, by simp [zeroSt, N64], by simp [zeroSt, N32], zeroCf_ok w B⟩

/-- it may be read wherever a block alone is written -/
def SAside (w : World) (row : Option Nat) (s : StaM) : Prop := ∀ u, w.grownBy u row → StaM.good u u.heap.size s
theorem SAside.good {w : World} {row : Option Nat} {s : StaM} (h : SAside w row s) : StaM.good w w.heap.size s := h w (World.grownBy.refl w _)
theorem SAside.step {w w' : World} {row : Option Nat} {s : StaM} (h : SAside w row s) (hb : Below w.heap.size w w') : SAside w' row s := fun u hu => h u (grown_join (grown_below (World.grownBy.refl w _) hb) hu)
theorem SAside.set {w w' : World} {row : Option Nat} {s : StaM} (h : SAside w row s) (hg : w.grownBy w' row) : SAside w' row s := fun u hu => h u (grown_join hg hu)
theorem SAside.zero (w : World) (row : Option Nat) : SAside w row zeroSt := fun _ _ => zeroSt_good _ _
theorem SAside.none {w : World} {s : StaM} (h : StaM.good w w.heap.size s) : SAside w none s := fun u hu => by
  have hb : Below w.heap.size w u := (Below.refl _ _).grown hu (Nat.le_refl _) (fun k hk => by cases hk)
  exact (h.below hb).more hb.size
/-- registers, and rows of nodes, likewise -/
def RAside (w : World) (row : Option Nat) (x : RegM) : Prop := ∀ u, w.grownBy u row → RegM.ok u u.heap.size x
def CAside (w : World) (row : Option Nat) (x : CfM) : Prop := ∀ u, w.grownBy u row → CfM.ok u u.heap.size x
theorem below_row {w u : World} {B : Nat} {row : Option Nat} (hu : w.grownBy u row) (hB : B ≤ w.heap.size) (hr : ∀ z, row = some z → B ≤ z) : Below B w u := (Below.refl _ _).grown hu hB hr
theorem RAside.low {w : World} {B : Nat} {row : Option Nat} {x : RegM} (h : RegM.ok w B x) (hB : B ≤ w.heap.size) (hr : ∀ z, row = some z → B ≤ z) : RAside w row x := fun u hu => by
  have hb := below_row hu hB hr
  exact reg_stable.more (reg_stable.below h hb) (Nat.le_trans hB hb.size)
theorem CAside.low {w : World} {B : Nat} {row : Option Nat} {x : CfM} (h : CfM.ok w B x) (hB : B ≤ w.heap.size) (hr : ∀ z, row = some z → B ≤ z) : CAside w row x := fun u hu => by
  have hb := below_row hu hB hr
  exact (h.below hb).more (Nat.le_trans hB hb.size)
theorem SAside.reg {w : World} {row : Option Nat} {s : StaM} (h : SAside w row s) {i : Nat} (hi : i < 16) : RAside w row (s.f i).r := fun u hu => ((h u hu).sl i hi).1.2
theorem SAside.conf {w : World} {row : Option Nat} {s : StaM} (h : SAside w row s) : CAside w row s.cf := fun u hu => (h u hu).cf
theorem RAside.fresh {w : World} {lo : Nat} {row : Option Nat} {x : RegM} (h : Fresh w lo x) (hz : ∀ z, row = some z → z < lo) : RAside w row x := fun u hu => by
  rcases row with _ | z
  · have hb : Below w.heap.size w u := (Below.refl _ _).grown hu (Nat.le_refl _) (fun k hk => by cases hk)
    exact (h.below hb).ok
  · exact Aside14.fresh h (hz z rfl) u hu
def NFresh (w : World) (lo : Nat) (x : NdM) : Prop := w.ownsRow lo 5 1 (.slice x.A x.l.length x.c) x.l.length (bv x.l) ∧ x.l.length ≤ 100
def CFresh (w : World) (lo : Nat) (x : CfM) : Prop := x.C < 18446744073709551616 ∧ NFresh w lo x.o ∧ NFresh w lo x.n
theorem NFresh.ok {w : World} {lo : Nat} {x : NdM} (h : NFresh w lo x) : NdM.ok w w.heap.size x := ⟨h.2, Sees.own h.1⟩
theorem NFresh.grown {w u : World} {lo : Nat} {row : Option Nat} {x : NdM} (h : NFresh w lo x) (hu : w.grownBy u row) (hz : ∀ z, row = some z → z < lo) : NFresh u lo x := by
  rcases row with _ | z
  · have hb : Below w.heap.size w u := (Below.refl _ _).grown hu (Nat.le_refl _) (fun k hk => by cases hk)
    exact ⟨own_below h.1 hb, h.2⟩
  · exact ⟨own_other9 h.1 (fun e => own_far h.1 (hz z rfl) e.symm) hu, h.2⟩
theorem CFresh.grown {w u : World} {lo : Nat} {row : Option Nat} {x : CfM} (h : CFresh w lo x) (hu : w.grownBy u row) (hz : ∀ z, row = some z → z < lo) : CFresh u lo x := ⟨h.1, h.2.1.grown hu hz, h.2.2.grown hu hz⟩
theorem CFresh.ok {w : World} {lo : Nat} {x : CfM} (h : CFresh w lo x) : CfM.ok w w.heap.size x := ⟨h.1, h.2.1.ok, h.2.2.ok⟩
theorem CAside.fresh {w : World} {lo : Nat} {row : Option Nat} {x : CfM} (h : CFresh w lo x) (hz : ∀ z, row = some z → z < lo) : CAside w row x := fun _ hu => (h.grown hu hz).ok
theorem Fresh.grown14 {w u : World} {lo : Nat} {row : Option Nat} {x : RegM} (h : Fresh w lo x) (hu : w.grownBy u row) (hz : ∀ z, row = some z → z < lo) : Fresh u lo x := by
  rcases row with _ | z
  · have hb : Below w.heap.size w u := (Below.refl _ _).grown hu (Nat.le_refl _) (fun k hk => by cases hk)
    exact h.below hb
  · exact Aside14.fresh' h (hz z rfl) hu
/-- all of it in new memory -/
structure StaM.fresh (w : World) (lo : Nat) (s : StaM) : Prop where
  sl : ∀ i, i < 16 → (s.f i).num ∧ Fresh w lo (s.f i).r ∧ (s.f i).r.few
  fe : N64 s.fe
  li : N32 s.li
  cf : CFresh w lo s.cf
theorem StaM.fresh.grown {w u : World} {lo : Nat} {row : Option Nat} {s : StaM} (h : StaM.fresh w lo s) (hu : w.grownBy u row) (hz : ∀ z, row = some z → z < lo) : StaM.fresh u lo s :=
  ⟨fun i hi => ⟨(h.sl i hi).1, (h.sl i hi).2.1.grown14 hu hz, (h.sl i hi).2.2⟩, h.fe, h.li, h.cf.grown hu hz⟩
theorem StaM.fresh.good {w : World} {lo : Nat} {s : StaM} (h : StaM.fresh w lo s) : StaM.good w w.heap.size s :=
  ⟨fun i hi => ⟨⟨(h.sl i hi).1, (h.sl i hi).2.1.ok⟩, (h.sl i hi).2.2⟩, h.fe, h.li, h.cf.ok⟩
theorem StaM.fresh.aside {w : World} {lo : Nat} {row : Option Nat} {s : StaM} (h : StaM.fresh w lo s) (hz : ∀ z, row = some z → z < lo) : SAside w row s := fun _ hu => (h.grown hu hz).good
theorem StaM.fresh.less {w : World} {lo lo' : Nat} {s : StaM} (h : StaM.fresh w lo s) (hl : lo' ≤ lo) : StaM.fresh w lo' s :=
  ⟨fun i hi => ⟨(h.sl i hi).1, Aside14.less (h.sl i hi).2.1 hl, (h.sl i hi).2.2⟩, h.fe, h.li, ⟨h.cf.1, ⟨own_mono h.cf.2.1.1 hl, h.cf.2.1.2⟩, ⟨own_mono h.cf.2.2.1 hl, h.cf.2.2.2⟩⟩⟩
end Go.Proofs.YtnkjdijbfnmnhaaGreat

/-
  How records come in; the law's bound on them; the example of layer 14.
-/
namespace Go.Proofs.YtnkjdijbfnmnhaaGreat
open Go.ChangeShapes Go.WideShapes Go.ChangeAt Go.RowKit Go.Joins Go.Deep

/-- a row of nodes, a configuration, a record, however long -/
def NdM.wide (w : World) (B : Nat) (x : NdM) : Prop := x.l.length ≤ x.c ∧ x.c ≤ maxLen ∧ Sees w B x.A (bv x.l)
def CfM.wide (w : World) (B : Nat) (x : CfM) : Prop := x.C < 18446744073709551616 ∧ NdM.wide w B x.o ∧ NdM.wide w B x.n
def RecM.wide (w : World) (B : Nat) (m : RecM) : Prop := m.ok' ∧ RegM.ok w B m.r ∧ CfM.wide w B m.cf
theorem nd_stable : Stable NdM.wide := fun _ _ _ _ _ h hk hB => ⟨h.1, h.2.1, (h.2.2.keep hk).more hB⟩
theorem cfw_stable : Stable CfM.wide := fun w w' B B' x h hk hB => ⟨h.1, nd_stable w w' B B' x.o h.2.1 hk hB, nd_stable w w' B B' x.n h.2.2 hk hB⟩
theorem recw_stable : Stable RecM.wide := fun w w' B B' x h hk hB => ⟨h.1, reg_stable w w' B B' x.r h.2.1 hk hB, cfw_stable w w' B B' x.cf h.2.2 hk hB⟩
def RecM.cs (m : RecM) : List Value := m.box.toList
theorem RecM.cs_len (m : RecM) : m.cs.length = 21 := rfl
def recsOk (w : World) (B : Nat) (s : Sl RecM) : Prop := Sl.ok RecM.cs RecM.wide w B s
theorem recs_stable : Stable recsOk := Sl.stable recw_stable
/-- few enough to be gone through -/
def RecM.least (m : RecM) : Prop := m.r.few ∧ m.cf.o.l.length ≤ 80 ∧ m.cf.n.l.length ≤ 80
theorem RecM.wide.tame {w : World} {B : Nat} {m : RecM} (h : RecM.wide w B m) (hl : m.least) : m.ok' ∧ RegM.ok w B m.r ∧ CfM.ok w B m.cf ∧ m.r.few :=
  ⟨h.1, h.2.1, ⟨h.2.2.1, ⟨Nat.le_trans hl.2.1 (by decide), h.2.2.2.1.2.2⟩, ⟨Nat.le_trans hl.2.2 (by decide), h.2.2.2.2.2.2⟩⟩, hl.1⟩

section
variable {H : Type} {enc : TypeId × Value → H} {w : World} {base : Nat} {spare : Nat → Bool} {held : Bool}

set_option maxRecDepth 100000 in
theorem open_nd {n : Nat} {v : Value} {y : DataW H × List MemPlace} (h : DataW.trod enc Tryz.prog w base spare held n 50 [v] = some y) : ∃ s : NdM, v = s.v ∧ NdM.wide w w.heap.size s := by
  obtain ⟨s, hv, h1, h2, h3, _⟩ := open_sl (fun b : UInt8 => [Value.int .u8 (b.toNat : Int)]) (fun _ => True) (q := 1) (by omega) Tryz.underlying50 (by kernel_rfl) (fun _ => rfl) (fun n xs y hl h => by
    match xs, hl with
    | [c0], _ =>
      obtain ⟨a, rfl, ha, hb⟩ := open_u8c Tryz.underlying5 h
      refine ⟨UInt8.ofNat a.toNat, ?_, trivial⟩
      rw [byte_of (by omega)]
      congr 2
      omega) h
  have e : s.l.flatMap (fun b : UInt8 => [Value.int .u8 (b.toNat : Int)]) = bv s.l := by
    induction s.l with
    | nil => rfl
    | cons b l ih => rw [List.flatMap_cons, ih]; rfl
  rw [e] at h3
  exact ⟨⟨s.A, s.c, s.l⟩, hv, h1, h2, h3⟩

set_option maxRecDepth 100000 in
theorem el_conf {n : Nat} {xs : List Value} {y : DataW H × List MemPlace} (hl : xs.length = 3) (h : DataW.trod enc Tryz.prog w base spare held n 52 xs = some y) : ∃ x : CfM, xs = x.cs ∧ CfM.wide w w.heap.size x := by
  match xs, hl with
  | [c0, c1, c2], _ =>
    obtain ⟨_, _, h0⟩ := field_at Tryz.underlying52 h 0 rfl rfl rfl (by kernel_rfl) rfl
    obtain ⟨_, _, h1⟩ := field_at Tryz.underlying52 h 1 rfl rfl rfl (by kernel_rfl) rfl
    obtain ⟨_, _, h2⟩ := field_at Tryz.underlying52 h 2 rfl rfl rfl (by kernel_rfl) rfl
    obtain ⟨a, rfl, ha⟩ := open_u64n Tryz.underlying25 h0
    obtain ⟨b, rfl, hb⟩ := open_nd h1
    obtain ⟨c, rfl, hc⟩ := open_nd h2
    exact ⟨⟨a, b, c⟩, rfl, ha, hb, hc⟩

set_option maxRecDepth 100000 in
theorem el_rec {n : Nat} {xs : List Value} {y : DataW H × List MemPlace} (hl : xs.length = 21) (h : DataW.trod enc Tryz.prog w base spare held n 54 xs = some y) : ∃ m : RecM, xs = m.cs ∧ RecM.wide w w.heap.size m := by
  match xs, hl with
  | [c0, c1, c2, c3, c4, c5, c6, c7, c8, c9, c10, c11, c12, c13, c14, c15, c16, c17, c18, c19, c20], _ =>
    obtain ⟨_, _, h0⟩ := field_at Tryz.underlying54 h 0 rfl rfl rfl (by kernel_rfl) rfl
    obtain ⟨_, _, h1⟩ := field_at Tryz.underlying54 h 1 rfl rfl rfl (by kernel_rfl) rfl
    obtain ⟨_, _, h2⟩ := field_many (cs := [c2, c3, c4]) (q := 3) Tryz.underlying54 h 2 rfl rfl rfl (by kernel_rfl) rfl
    obtain ⟨_, _, h3⟩ := field_many (cs := [c5, c6, c7]) (q := 3) Tryz.underlying54 h 3 rfl rfl rfl (by kernel_rfl) rfl
    obtain ⟨_, _, h4⟩ := field_many (cs := [c8, c9, c10, c11, c12, c13, c14, c15]) (q := 8) Tryz.underlying54 h 4 rfl rfl rfl (by kernel_rfl) rfl
    obtain ⟨_, _, h5⟩ := field_at Tryz.underlying54 h 5 rfl rfl rfl (by kernel_rfl) rfl
    obtain ⟨_, _, h6⟩ := field_at Tryz.underlying54 h 6 rfl rfl rfl (by kernel_rfl) rfl
    obtain ⟨_, _, h7⟩ := field_many (cs := [c18, c19, c20]) (q := 3) Tryz.underlying54 h 7 rfl rfl rfl (by kernel_rfl) rfl
    obtain ⟨ki, rfl, b0⟩ := open_u8n Tryz.underlying5 h0
    obtain ⟨ke, rfl, b1⟩ := open_u8n Tryz.underlying5 h1
    obtain ⟨pc, pn, pl, e2, b2⟩ := el_bal rfl h2
    obtain ⟨ac, an, al, e3, b3⟩ := el_bal rfl h3
    obtain ⟨r, e4, b4⟩ := el_reg rfl h4
    obtain ⟨fe, rfl, b5⟩ := open_u64n Tryz.underlying25 h5
    obtain ⟨li, rfl, b6⟩ := open_u32n Tryz.underlying47 h6
    obtain ⟨cf, e7, b7⟩ := el_conf rfl h7
    simp only [List.cons.injEq, and_true] at e2 e3
    simp only [RegM.cs, List.cons.injEq, and_true] at e4
    simp only [CfM.cs, List.cons.injEq, and_true] at e7
    obtain ⟨rfl, rfl, rfl⟩ := e2
    obtain ⟨rfl, rfl, rfl⟩ := e3
    obtain ⟨rfl, rfl, rfl, rfl, rfl, rfl, rfl, rfl⟩ := e4
    obtain ⟨rfl, rfl, rfl⟩ := e7
    exact ⟨⟨ki, ke, pc, pn, pl, ac, an, al, r, fe, li, cf⟩, rfl, ⟨⟨b0, b1⟩, b2, b3, b5, b6⟩, b4, b7⟩

set_option maxRecDepth 100000 in
theorem open_rec {r : Reach} {b0 : Nat} {v : Value} {d : DataW H} {p : List MemPlace} (hv : Value.okWide Tryz.prog w r b0 54 v) (h : DataW.Trod enc Tryz.prog w base spare held 54 v d p) :
    ∃ m : RecM, v = m.v ∧ RecM.wide w w.heap.size m := by
  obtain ⟨cs, rfl, hsz⟩ := okWide_struct Tryz.underlying54 hv
  obtain ⟨fuel, hf⟩ := h
  obtain ⟨l⟩ := cs
  have h8 : Tryz.prog.cellsOf 54 = 21 := by kernel_rfl
  have hl : l.length = 21 := hsz.trans h8
  obtain ⟨s, e, hs⟩ := el_rec (by simpa [Value.cells] using hl) hf
  refine ⟨s, ?_, hs⟩
  have e2 : l = s.cs := by simpa [Value.cells] using e
  rw [e2]
  rfl

set_option maxRecDepth 100000 in
theorem open_recs {r : Reach} {b0 : Nat} {v : Value} {d : DataW H} {p : List MemPlace} (hv : Value.okWide Tryz.prog w r b0 56 v) (h : DataW.Trod enc Tryz.prog w base spare held 56 v d p) :
    ∃ s : Sl RecM, v = s.v ∧ recsOk w w.heap.size s := by
  obtain ⟨A, n, c, rfl⟩ := okWide_slice Tryz.underlying56 hv
  obtain ⟨fuel, hf⟩ := h
  obtain ⟨s, hv, h1, h2, h3, h4⟩ := open_sl RecM.cs (RecM.wide w w.heap.size) (q := 21) (by omega) Tryz.underlying56 (by kernel_rfl) (fun _ => rfl) (fun _ _ _ hl h => el_rec hl h) (by simpa [Value.cells] using hf)
  exact ⟨s, hv, h1, h2, h3, h4⟩

end

/-- a record in a row that is read -/
theorem reg_row14 : ∃ d, Tryz.prog.underlying 31 = some d ∧ d.isRow = true := ⟨_, Tryz.underlying31, rfl⟩
theorem Sees.rec14 {w : World} {B : Nat} {A : Option Addr} {l : List RecM} {k : Nat} {x : RecM} (h : Sees w B A (l.flatMap RecM.cs)) (hk : l[k]? = some x) :
    ∃ b o, A = some ⟨b, o, none⟩ ∧ b < B ∧ ∀ u : World, (∀ q : Addr, q.block < B → u.cell? q = w.cell? q) → u.rangeAt b (o + k * 21) x.cs := by
  obtain ⟨b, o, e, hb, hc⟩ := h.at (q := 21) (fun _ => rfl) (by omega) hk
  exact ⟨b, o, e, hb, fun u hu j v hv => (hu _ hb).trans (hc j v hv)⟩
theorem World.rangeAt.part {w : World} {b o : Nat} {a m c : List Value} {i : Nat} (h : w.rangeAt b o (a ++ m ++ c)) (hi : a.length = i) : w.rangeAt b (o + i) m := fun j v hv => by
  rw [Nat.add_assoc]
  refine h (i + j) v ?_
  rw [List.append_assoc, List.getElem?_append_right (by omega), hi, Nat.add_sub_cancel_left, List.getElem?_append_left (List.getElem?_eq_some_iff.1 hv).1]
  exact hv

section
variable {P : Program} {w : World} {ops : Array Oper} {rest : List Oper} {o : Oper} {a : Act} {Q : Exit → Act → World → Prop}
/-- the walk's step: a struct that lies in a row is read as a whole -/
theorem load_range (ty : TypeId) (hgd : Region.wanted o (yielded ops a.tmps) = true) (x : Operand) (ho : o.op = .load ty x) {n : Nat} (hi : (P.info? ty).map (·.size) = some n) (hu : ∃ d, P.underlying ty = some d ∧ d.isRow = true)
    {g i : Nat} {cs : List Value} (hb : w.rangeAt g i cs) (hn : cs.length = n) {V : Value} (hV : V = .agg cs.toArray) (hx : a.eval x = .pointer (some ⟨g, i, none⟩))
    (h : wpList P ops Q rest (a.put o.dst V) w) : wpList P ops Q (o :: rest) a w := by
  refine wpList_step fun _ hK => ?_
  rw [if_pos hgd]
  obtain ⟨d, hu1, hu2⟩ := hu
  subst hV
  exact wp_load_mid ty x ho g i hx cs d hb hu1 hu2 (by rw [hi, hn]) (hK _ _ h)
theorem yl_range {S : World → Prop} (ty : TypeId) (hw : Region.wanted o (yielded ops a.tmps) = true) (x : Operand) (ho : o.op = .load ty x) {n : Nat} (hi : (P.info? ty).map (·.size) = some n) (hu : ∃ d, P.underlying ty = some d ∧ d.isRow = true) {V : Value} {cs : List Value} (hV : V = .agg cs.toArray) {g i : Nat}
    (hS : ∀ w, S w → w.rangeAt g i cs) (hn : cs.length = n) (hx : a.eval x = .pointer (some ⟨g, i, none⟩)) : YieldsIf P ops S o V a := by
  subst hV
  obtain ⟨d, hu1, hu2⟩ := hu
  exact yieldsIf_load_mid (P := P) (S := S) hw _ x ho g i hx cs d hS hu1 hu2 (by rw [hi, hn])
end

def GreatR (l : List RecM) (w : World) (e : Ending) (w' : World) : Prop := ∃ b : Bool, e = .returned (.bool b) ∧ Below w.heap.size w w' ∧ (b = false → l.length ≤ 60 ∧ ∀ m ∈ l, m.least)
theorem greatR_yes {l : List RecM} {w w' : World} {e : Ending} (h : e = .returned (.bool true)) (hb : Below w.heap.size w w') : GreatR l w e w' := ⟨true, h, hb, fun e => by cases e⟩
theorem greatR_no {l : List RecM} {w w' : World} {e : Ending} (h : e = .returned (.bool false)) (hb : Below w.heap.size w w') (h2 : l.length ≤ 60 ∧ ∀ m ∈ l, m.least) : GreatR l w e w' := ⟨false, h, hb, fun _ => h2⟩

set_option maxRecDepth 100000 in
set_option maxHeartbeats 6400000 in
theorem great14_any (s : Sl RecM) (B : Nat) (w : World) (h : recsOk w B s) (hB : B ≤ w.heap.size) : Calls Tryz.prog 16 #[s.v] w (GreatR s.l w) := by
  obtain ⟨A, cp, l⟩ := s
  obtain ⟨hlc, hcm, hs, hok⟩ := h
  simp only [Sl.v] at *
  have HY := hide_ (fun (e : Ending) (w' : World) (h1 : e = .returned (.bool true)) (h2 : Below w.heap.size w w') => greatR_yes (l := l) h1 h2)
  have HNO := hide_ (fun (e : Ending) (w' : World) (h1 : e = .returned (.bool false)) (h2 : Below w.heap.size w w') h3 => greatR_no (l := l) h1 h2 h3)
  obtain ⟨G, hG⟩ : ∃ G : Ending → World → Prop, GreatR l w = G := ⟨_, rfl⟩
  simp only [hG] at HY HNO ⊢
  obtain ⟨m, hm⟩ : ∃ m, l.length = m := ⟨_, rfl⟩
  rw [hm]
  have HS := hide_ hs
  have HOK := hide_ hok
  have HM := hide_ hm
  have hm9 : m ≤ 9223372036854775807 := by
    unfold maxLen at hcm
    omega
  clear hs hok hG hm hlc hcm
  by_cases h5 : 60 < m
  · clear hm9
    go_enter Tryz.func16, Tryz.ntmps16
    go_wp2
    exact HY.out _ _ rfl (Below.refl _ _)
  clear hm9
  go_enter Tryz.func16, Tryz.ntmps16
  go_wp2
  go_loopw [3, 9] (fun _ i wr => ∃ k : Nat, k ≤ m ∧ i = .int .i64 (k : Int) ∧ Hid (∀ j x, j < k → l[j]? = some x → x.least) ∧ Hid (Below w.heap.size w wr)) (fun _ i _ => m - (intOf i).toNat)
  case atStart => exact ⟨0, Nat.zero_le _, rfl, hide_ (fun j x hj => absurd hj (by omega)), hide_ (Below.refl _ _)⟩
  case round =>
    obtain ⟨k, hk, rfl, HJ, HB⟩ := hrel
    by_cases hlt : k < m
    case neg =>
      have hkm : m = k := by omega
      subst hkm
      have HF := hide_ (show l.length ≤ 60 ∧ ∀ x ∈ l, x.least from ⟨by rw [HM.out]; omega, fun x hx => by
        obtain ⟨j, hj⟩ := List.mem_iff_getElem?.1 hx
        have := (List.getElem?_eq_some_iff.1 hj).1
        rw [HM.out] at this
        exact HJ.out j x this hj⟩)
      go_wp2
      exact HNO.out _ _ rfl HB.out HF.out
    obtain ⟨x, hx⟩ : ∃ x, l[k]? = some x := ⟨_, List.getElem?_eq_getElem (by rw [HM.out]; exact hlt)⟩
    obtain ⟨b, off, rfl, hb, hrg⟩ := HS.out.rec14 hx
    have hwd := HOK.out x (List.mem_of_getElem? hx)
    have HRG := hide_ (fun (u : World) (h : Below w.heap.size w u) => hrg u (fun q hq => (h.mono hB).cell hq))
    have HGR := hide_ (fun (u : World) (h : Below w.heap.size w u) => GreatG_any x.r B u (reg_stable.below hwd.2.1 (h.mono hB)) (Nat.le_trans hB h.size))
    have HX := hide_ hx
    clear hx hrg hwd
    have HLST := hide_ (show x.r.few ∧ x.cf.o.l.length ≤ 80 ∧ x.cf.n.l.length ≤ 80 → x.least from id)
    have HNX := hide_ (show x.least → ∀ j y, j < k + 1 → l[j]? = some y → y.least from fun hl j y h1 h2 => by
      by_cases e : j = k
      · subst e
        rw [HX.out] at h2
        injection h2 with h2
        subst h2
        exact hl
      · exact HJ.out j y (by omega) h2)
    obtain ⟨ki, ke, pc, pn, pl, ac, an, al, ⟨rk, inc, st, ⟨vA, vc, vl⟩, ⟨dA, dc, dl⟩, ⟨oA, oc, ol⟩, la, ⟨mA, mc, ml⟩⟩, fe, li, ⟨C, ⟨xA, xc, xl⟩, ⟨yA, yc, yl⟩⟩⟩ := x
    simp only [RegM.v, Sl.v] at HGR
    simp only at HLST HNX
    have HCS := hide_ (fun (u : World) (h : Below w.heap.size w u) => (HRG.out u h : u.rangeAt b (off + k * 21) [.int .u8 ki, .int .u8 ke, .int .u64 pc, .int .u8 pn, .int .u32 pl, .int .u64 ac, .int .u8 an, .int .u32 al, .int .u8 rk, .int .u64 inc, .int .i64 st, .slice vA vl.length vc, .slice dA dl.length dc, .slice oA ol.length oc, .int .u64 la, .slice mA ml.length mc, .int .u64 fe, .int .u32 li, .int .u64 C, .slice xA xl.length xc, .slice yA yl.length yc]))
    have HRR := hide_ (fun (u : World) (h : Below w.heap.size w u) => World.rangeAt.part (a := [.int .u8 ki, .int .u8 ke, .int .u64 pc, .int .u8 pn, .int .u32 pl, .int .u64 ac, .int .u8 an, .int .u32 al]) (m := [.int .u8 rk, .int .u64 inc, .int .i64 st, .slice vA vl.length vc, .slice dA dl.length dc, .slice oA ol.length oc, .int .u64 la, .slice mA ml.length mc]) (c := [.int .u64 fe, .int .u32 li, .int .u64 C, .slice xA xl.length xc, .slice yA yl.length yc]) (i := 8) (HRG.out u h) rfl)
    have HC19 := hide_ (fun (u : World) (h : Below w.heap.size w u) => HCS.out u h 19 _ rfl)
    have HC20 := hide_ (fun (u : World) (h : Below w.heap.size w u) => HCS.out u h 20 _ rfl)
    obtain ⟨n1, hn1⟩ : ∃ n, xl.length = n := ⟨_, rfl⟩
    obtain ⟨n2, hn2⟩ : ∃ n, yl.length = n := ⟨_, rfl⟩
    simp only [hn1] at HLST HC19
    simp only [hn2] at HLST HC20
    have hbz : b < wr.heap.size := Nat.lt_of_lt_of_le hb (Nat.le_trans hB HB.out.size)
    have HBL := hide_ (fun (u : World) (h : Below w.heap.size w u) => Nat.lt_of_lt_of_le hb (Nat.le_trans hB h.size))
    clear hn1 hn2 HX HJ HRG HCS hb
    go_wp2_with (refine load_range 31 (by rfl) _ (by rfl) reg_size8 reg_row14 (HRR.out _ HB.out) (by rfl) (by rfl) (by rfl) ?_)
    refine (HGR.out _ HB.out).mono ?_
    rintro en w2 ⟨bb, rfl, hb2, hfew⟩
    have HB2 := hide_ (HB.out.trans (hb2.mono HB.out.size))
    have HFEW := hide_ hfew
    have c19 := HC19.out _ HB2.out
    have c20 := HC20.out _ HB2.out
    have hbz2 := HBL.out _ HB2.out
    clear hb2 hfew hbz
    cases bb with
    | true =>
      go_wp2
      exact HY.out _ _ rfl HB2.out
    | false =>
    by_cases h80 : 80 < n1
    · go_wp2
      exact HY.out _ _ rfl HB2.out
    by_cases h81 : 80 < n2
    · go_wp2
      exact HY.out _ _ rfl HB2.out
    · go_wp2
      go_roundw
      case rel =>
        have hf := HFEW.out (by first | trivial | rfl)
        exact ⟨k + 1, by omega, by go_num, hide_ (HNX.out (HLST.out ⟨⟨⟨hf.1, hf.2.1, hf.2.2.1, hf.2.2.2.1⟩, hf.2.2.2.2⟩, by omega, by omega⟩)), HB2⟩
      case measure => simp [intOf]; omega

end Go.Proofs.YtnkjdijbfnmnhaaGreat

/-
  Slots the same, what is known the same: contracts of record's Same and of the document's.
-/
namespace Go.Proofs.YtnkjdijbfnmnhaaGreat
open Go.RowKit

theorem slotP_eq (a b : SlotP) : decide (a = b) = (decide (a.ha = b.ha) && (decide (a.pc = b.pc) && (decide (a.pn = b.pn) && (decide (a.pl = b.pl) && (decide (a.ac = b.ac) && (decide (a.an = b.an) && (decide (a.al = b.al) && (decide (a.r = b.r))))))))) := by
  obtain ⟨a0, a1, a2, a3, a4, a5, a6, a7⟩ := a
  obtain ⟨b0, b1, b2, b3, b4, b5, b6, b7⟩ := b
  rw [Bool.eq_iff_iff]
  simp only [decide_eq_true_eq, Bool.and_eq_true, SlotP.mk.injEq]

/-- is the same known? -/
def slotsB (a b : StaP) (k : Nat) : Bool := (List.range k).all fun i => decide (a.f i = b.f i)
def sameSt (a b : StaP) : Bool := slotsB a b 16 && (decide (a.fe = b.fe) && (decide (a.li = b.li) && decide (a.cf = b.cf)))
theorem slotsB_no {a b : StaP} {i k : Nat} (hi : i < k) (h : decide (a.f i = b.f i) = false) : slotsB a b k = false := by
  unfold slotsB
  rw [← Bool.not_eq_true, List.all_eq_true]
  intro hh
  have := hh i (List.mem_range.2 hi)
  rw [h] at this
  cases this
theorem slotsB_yes {a b : StaP} {k : Nat} (h : ∀ i, i < k → decide (a.f i = b.f i) = true) : slotsB a b k = true := by
  unfold slotsB
  rw [List.all_eq_true]
  exact fun i hi => h i (List.mem_range.1 hi)

end Go.Proofs.YtnkjdijbfnmnhaaGreat

/-
  A configuration is taken out of bytes that were put: contracts of conf's getNodes, failed and Get.
-/
namespace Go.Proofs.YtnkjdijbfnmnhaaGreat
open Go.RowKit

theorem grown_low {w w1 w2 : World} {g : Nat} (h : w.grownBy w1 (some g)) (hb : Below w.heap.size w1 w2) : w.grownBy w2 (some g) :=
  ⟨hb.os.trans h.os, hb.tape.trans h.tape, hb.output.trans h.output, Nat.le_trans h.size hb.size, fun k hk hne => (hb.block k hk).trans (h.block k hk hne)⟩
theorem Rdr.low {w w' : World} {g B : Nat} {l : List UInt8} {er : Int} (h : Rdr w g l er) (hb : Below B w w') (hg : g < B) : Rdr w' g l er := by
  obtain ⟨A, c, h1, h2, h3⟩ := h
  exact ⟨A, c, (hb.block g hg).trans h1, h2.below (hb.mono (by omega)), h3⟩

section
variable {P : Program} {w : World} {ops : Array Oper} {rest : List Oper} {o : Oper} {a : Act} {Q : Exit → Act → World → Prop}
theorem bldG_known (ty : TypeId) (parts : Array (Nat × Operand)) (ho : o.op = .build ty parts) (hgd : Region.wanted o (yielded ops a.tmps) = true) (vals : Array (Nat × Value)) (hp : (parts.map fun (i, x) => (i, a.eval x)) = vals) {V : Value} (hr : (Instr.build ty vals).run P w = .ok V w) (h : wpList P ops Q rest (a.put o.dst V) w) : wpList P ops Q (o :: rest) a w := by
  subst hp
  exact build_known ty parts ho hgd hr h
end

/-- what a call leaves that takes nodes -/
def TookN (f t : List UInt8) (g : Nat) (w : World) (e : Ending) (w' : World) : Prop :=
  ∃ A c, e = .returned (.slice A f.length c) ∧ w'.ownsRow w.heap.size 5 1 (.slice A f.length c) f.length (bv f) ∧ Rdr w' g t 0 ∧ w.grownBy w' (some g)

set_option maxRecDepth 100000 in
set_option maxHeartbeats 3200000 in
theorem getNodes_put (f t : List UInt8) (g n : Nat) (w : World) (h : Rdr w g (nodesB f ++ t) 0) (hn : f.length = n) (hm : n ≤ 64) (hl : (nodesB f ++ t).length ≤ 1000000) :
    Calls Tryz.prog 208 #[.pointer (some ⟨g, 0, none⟩)] w (TookN f t g w) := by
  have hgl : g < w.heap.size := h.glt
  have HN := hide_ hn
  obtain ⟨s1, hs1⟩ : ∃ s, f.flatMap ndB ++ t = s := ⟨_, rfl⟩
  have e0 : nodesB f ++ t = numB n ++ s1 := by rw [← hs1, ← hn]; simp [nodesB]
  rw [e0] at h hl
  have HC := hide_ (Num_put 64 h hm (by omega) hl)
  have HL := hide_ (show s1.length ≤ 1000000 from by rw [List.length_append] at hl; omega)
  have HS := hide_ hs1
  have HD := hide_ (show (f.drop 0).flatMap ndB ++ t = s1 from hs1)
  have HD0 := hide_ (show (f.drop n).flatMap ndB ++ t = t from by rw [List.drop_eq_nil_of_le (by omega)]; rfl)
  clear h hn hs1 e0 hl
  go_enter Tryz.func208, Tryz.ntmps208
  go_wp2_with fail
  refine HC.out.mono ?_
  rintro en w1 ⟨rfl, hr1, hg1⟩
  have HR1 := hide_ hr1
  have HG1 := hide_ hg1
  clear hr1 hg1 HC
  go_wp2
  go_loopw [3, 6] (fun v i wr => ∃ k : Nat, k ≤ n ∧ i = .int .u64 k ∧ Hid (wr.ownsRow w.heap.size 5 1 v k (bv (f.take k))) ∧ Hid (Rdr wr g ((f.drop k).flatMap ndB ++ t) 0) ∧ Hid (w.grownBy wr (some g))) (fun _ i _ => n - (intOf i).toNat)
  case atStart => exact ⟨0, Nat.zero_le _, rfl, hide_ (World.ownsRow_nil _ _ _ _), hide_ (by rw [HD.out]; exact HR1.out), HG1⟩
  case round =>
    obtain ⟨k, hk, rfl, HO, HR, HG⟩ := hrel
    have hzw : w.heap.size ≤ wr.heap.size := HG.out.size
    by_cases hlt : k < n
    · obtain ⟨x, hx⟩ : ∃ x, f[k]? = some x := ⟨_, List.getElem?_eq_getElem (by rw [HN.out]; exact hlt)⟩
      obtain ⟨hkl, hxx⟩ := List.getElem?_eq_some_iff.1 hx
      obtain ⟨s2, hs2⟩ : ∃ s, (f.drop (k + 1)).flatMap ndB ++ t = s := ⟨_, rfl⟩
      have e1 : (f.drop k).flatMap ndB ++ t = numB x.toNat ++ s2 := by rw [List.drop_eq_getElem_cons hkl, hxx, List.flatMap_cons, List.append_assoc, hs2]; rfl
      have hsl : ((f.drop k).flatMap ndB ++ t).length ≤ 1000000 := by
        have h1 : ((f.drop k).flatMap ndB ++ t).length ≤ s1.length := by
          rw [← HS.out]
          conv => rhs; rw [← List.take_append_drop k f, List.flatMap_append]
          simp only [List.length_append]
          omega
        have := HL.out
        omega
      rw [e1] at hsl HR
      have hx256 := x.toNat_lt
      have HCL := hide_ (Num_put 255 HR.out (by omega) (by omega) hsl)
      have HT2 := hide_ (show bv (f.take k) ++ [.int .u8 (x.toNat : Int)] = bv (f.take (k + 1)) from by rw [List.take_succ_eq_append_getElem hkl, bv_append, hxx]; rfl)
      have HS2 := hide_ hs2
      have h255 : x.toNat ≤ 255 := by omega
      clear hx hkl hxx hs2 e1 hsl hx256 HR
      generalize x.toNat = y at HCL HT2 h255
      go_wp2_with fail
      refine HCL.out.mono ?_
      rintro e w2 ⟨rfl, hr2, hg2⟩
      have HR2 := hide_ hr2
      have HG2 := hide_ (grown_join HG.out hg2)
      have HO2 := hide_ (own_other9 HO.out (fun e => own_far HO.out hgl e.symm) hg2)
      have hz2 : w.heap.size ≤ w2.heap.size := HG2.out.size
      clear hr2 hg2 HCL HO HG
      go_wp2_with (at_builtin; refine wpList_append_byte (P := Tryz.prog) _ rfl (.tmp 8) (.tmp 12) 50 rfl w.heap.size 5 u8_info Tryz.underlying50 _ k (bv (f.take k)) _ rfl HO2.out rfl (by omega) hz2 ?_; intro v1 w3 hown3 hb3; (have HO3 := hide_ hown3); (have HR3 := hide_ (HR2.out.low hb3 hgl)); (have HG3 := hide_ (grown_low HG2.out hb3)); clear hown3 hb3)
      go_roundw
      case rel => exact ⟨k + 1, by omega, by go_num, by rw [← HT2.out]; exact HO3, by rw [HS2.out]; exact HR3, HG3⟩
      case measure => simp [intOf]; omega
    · obtain rfl : k = n := by omega
      have HO3 := hide_ (show wr.ownsRow w.heap.size 5 1 _ f.length (bv f) from by have h := HO.out; rw [← HN.out, List.take_length] at h; exact h)
      rw [HD0.out] at HR
      obtain ⟨A3, c3, hA3⟩ := own_slice HO3.out
      subst hA3
      go_wp2
      go_ret
      exact ⟨_, _, rfl, HO3.out, HR.out, HG.out⟩

theorem failedC_live {g : Nat} {l : List UInt8} {w : World} (h : Rdr w g l 0) : Calls Tryz.prog 209 #[.pointer (some ⟨g, 0, none⟩)] w fun e w' => e = .returned (.bool false) ∧ w = w' := by
  by_cases hl : l = []
  · go_enter Tryz.func209, Tryz.ntmps209
    go_wp2_with (refine (End_live h 0 (by rw [if_pos rfl, if_pos hl])).mono ?_; rintro e w1 ⟨rfl, rfl⟩)
    go_ret
    exact ⟨rfl, rfl⟩
  · go_enter Tryz.func209, Tryz.ntmps209
    go_wp2_with (refine (End_live h 4 (by rw [if_pos rfl, if_neg hl])).mono ?_; rintro e w1 ⟨rfl, rfl⟩)
    go_ret
    exact ⟨rfl, rfl⟩


theorem confz_info : (Tryz.prog.info? 52).map (fun i => (i.zero, i.size)) = some (some (.agg zeroCf.cs.toArray), 3) := by kernel_rfl
theorem lists_info : (Tryz.prog.info? 202).map (fun i => (i.zero, i.size)) = some (some (.agg #[.slice none 0 0, .slice none 0 0]), 2) := by kernel_rfl
theorem NFresh.nil (w : World) (lo : Nat) : NFresh w lo ⟨none, 0, []⟩ := ⟨World.ownsRow_nil _ _ _ _, by simp⟩
theorem NFresh.cell {w : World} {lo z i : Nat} {v : Value} {x : NdM} {cs : Array Value} {t : TypeId} (h : NFresh w lo x) (hb : BoxAt w z cs t) (ht : t ≠ 5) : NFresh (w.setCell ⟨z, i, none⟩ v) lo x :=
  ⟨own_other9 h.1 (hb.apart9 ht h.1) (grown_cell9 w z i v), h.2⟩
theorem build_cfv (C : Nat) (A1 A2 : Option Addr) (n1 c1 n2 c2 : Nat) (u : World) : (Instr.build 52 #[(0, .int .u64 C), (1, .slice A1 n1 c1), (2, .slice A2 n2 c2)]).run Tryz.prog u = .ok (.agg #[.int .u64 C, .slice A1 n1 c1, .slice A2 n2 c2]) u := by kernel_rfl

set_option maxRecDepth 100000 in
/-- what stands in memory while a configuration is taken -/
structure CGet (cf : CfP) (t : List UInt8) (g z0 z1 k : Nat) (o n : NdM) (w wr : World) : Prop where
  box : BoxAt wr z1 #[o.v, n.v] 202
  zero : BoxAt wr z0 zeroCf.cs.toArray 52
  old : NFresh wr w.heap.size o
  new : NFresh wr w.heap.size n
  rdr : Rdr wr g (if k = 0 then nodesB cf.2.1 ++ (nodesB cf.2.2 ++ t) else if k = 1 then nodesB cf.2.2 ++ t else t) 0
  grow : w.grownBy wr (some g)
  one : 1 ≤ k → o.l = cf.2.1
  two : 2 ≤ k → n.l = cf.2.2

/-- what a call leaves that takes a configuration -/
def TookC (cf : CfP) (t : List UInt8) (g : Nat) (w : World) (e : Ending) (w' : World) : Prop :=
  ∃ y : CfM, e = .returned y.v ∧ y.p = cf ∧ CFresh w' w.heap.size y ∧ Rdr w' g t 0 ∧ w.grownBy w' (some g)

set_option maxRecDepth 100000 in
set_option maxHeartbeats 3200000 in
theorem confGet_put (cf : CfP) (t : List UInt8) (g : Nat) (w : World) (hc : cf.1 < 18446744073709551616) (h1 : cf.2.1.length ≤ 64) (h2 : cf.2.2.length ≤ 64) (hmay : mayC cf.1 cf.2.1 cf.2.2 = true) (h : Rdr w g (confB cf ++ t) 0) (hl : (confB cf ++ t).length ≤ 1000000) :
    Calls Tryz.prog 136 #[.pointer (some ⟨g, 0, none⟩)] w (TookC cf t g w) := by
  obtain ⟨R, hR⟩ : ∃ R, TookC cf t g w = R := ⟨_, rfl⟩
  rw [hR]
  have HFD := hide_ (fun (e : Ending) (w' : World) (y : CfM) (h1 : e = .returned y.v) (h2 : y.p = cf) (h3 : CFresh w' w.heap.size y) (h4 : Rdr w' g t 0) (h5 : w.grownBy w' (some g)) => show R e w' from by rw [← hR]; exact ⟨y, h1, h2, h3, h4, h5⟩)
  have hgl : g < w.heap.size := h.glt
  have HGL := hide_ hgl
  have HMAY := hide_ hmay
  have HH1 := hide_ h1
  have HH2 := hide_ h2
  obtain ⟨s1, hs1⟩ : ∃ s, nodesB cf.2.1 ++ (nodesB cf.2.2 ++ t) = s := ⟨_, rfl⟩
  have e0 : confB cf ++ t = numB cf.1 ++ s1 := by rw [← hs1]; simp [confB]
  rw [e0] at h hl
  have HL := hide_ (show (nodesB cf.2.1 ++ (nodesB cf.2.2 ++ t)).length ≤ 1000000 ∧ (nodesB cf.2.2 ++ t).length ≤ 1000000 from by rw [List.length_append, ← hs1] at hl; simp only [List.length_append] at hl ⊢; omega)
  have HR0 := hide_ h
  have HLL := hide_ hl
  have HC := hide_ hc
  have HS1 := hide_ hs1
  clear hR h hl e0 hs1 hc h1 h2 hmay
  obtain ⟨C, ol, nl⟩ := cf
  simp only at HMAY HR0 HL HLL HC HH1 HH2 HS1
  go_enter Tryz.func136, Tryz.ntmps136
  go_wp2_with (refine alloc_whole 52 (by rfl) (by rfl) confz_info ?_; intro W0 HY0 HB0 HZ0)
  have HG0 := hide_ (show w.grownBy W0 (some g) from grown_low (World.grownBy.refl w (some g)) HB0.out)
  have HR1 := hide_ (HR0.out.below HB0.out)
  have hz0 : w.heap.size < W0.heap.size := HY0.out.lt
  clear HR0
  refine (Num_put 18446744073709551615 HR1.out (by have := HC.out; omega) HC.out HLL.out).mono ?_
  rintro en w1 ⟨rfl, hr1, hg1⟩
  have HR2 := hide_ hr1
  have HG1 := hide_ (grown_join HG0.out hg1)
  have HY1 := hide_ (show BoxAt w1 w.heap.size _ _ from box_far hg1 HY0.out (by omega))
  clear hr1 hg1 HY0 HR1 HG0 HB0 HZ0 hz0
  go_upto_region 3 with (refine alloc_whole 202 (by rfl) (by rfl) lists_info ?_; intro W2 HX2 HB2 HZ2)
  obtain ⟨z1, hz1⟩ : ∃ z, w1.heap.size = z := ⟨_, rfl⟩
  have HZ1 := hide_ (show w.heap.size < z1 from by rw [← hz1]; exact HY1.out.lt)
  rw [hz1] at HX2 ⊢
  have HGT := hide_ (show CGet (C, ol, nl) t g w.heap.size z1 0 ⟨none, 0, []⟩ ⟨none, 0, []⟩ w W2 from ⟨HX2.out, HY1.out.below HB2.out, NFresh.nil _ _, NFresh.nil _ _, by simp only [if_true]; rw [HS1.out]; exact HR2.out.below HB2.out, grown_low HG1.out (HB2.out.mono HG1.out.size), by omega, by omega⟩)
  clear HX2 HY1 HB2 HZ2 HR2 HG1 hz1
  go_wp2
  go_loopw [9] (fun i wr => ∃ (k : Nat) (o n : NdM), k ≤ 2 ∧ i = .int .i64 k ∧ Hid (CGet (C, ol, nl) t g w.heap.size z1 k o n w wr)) (fun i _ => 2 - (intOf i).toNat)
  case atStart => exact ⟨0, _, _, by omega, rfl, HGT⟩
  case round =>
    obtain ⟨k, o, n, hk, rfl, HK⟩ := hrel
    have hk3 : k = 0 ∨ k = 1 ∨ k = 2 := by omega
    clear hk HGT
    rcases hk3 with rfl | rfl | rfl
    · have HRR := hide_ (show Rdr wr g (nodesB ol ++ (nodesB nl ++ t)) 0 from HK.out.rdr)
      go_wp2_with fail
      refine (getNodes_put ol (nodesB nl ++ t) g _ wr HRR.out rfl HH1.out HL.out.1).mono ?_
      rintro en w4 ⟨A4, c4, rfl, ho4, hr4, hg4⟩
      have hzr : w.heap.size ≤ wr.heap.size := HK.out.grow.size
      have HX4 := hide_ (show BoxAt w4 z1 _ _ from box_far hg4 HK.out.box (by have := HZ1.out; have := HGL.out; omega))
      have HY4 := hide_ (show BoxAt w4 w.heap.size _ _ from box_far hg4 HK.out.zero (by have := HGL.out; omega))
      have HN4 := hide_ (show NFresh w4 w.heap.size ⟨A4, c4, ol⟩ from ⟨own_mono ho4 hzr, by have := HH1.out; simp only; omega⟩)
      have HM4 := hide_ (HK.out.new.grown hg4 (fun z e => by injection e with e; have := HGL.out; omega))
      have HG4 := hide_ (grown_join HK.out.grow hg4)
      have HR4 := hide_ hr4
      clear ho4 hr4 hg4 HK HRR
      have hzx : z1 < w4.heap.size := HX4.out.lt
      have c0 := HX4.out.cell 0
      simp at c0
      have f0 := HX4.out.free9 0
      go_wp2
      clear c0 f0
      go_roundw
      case rel => exact ⟨1, ⟨A4, c4, ol⟩, n, by omega, by go_num, hide_ ⟨HX4.out.set9 0 _, box_apart HY4.out (by have := HZ1.out; omega), HN4.out.cell HX4.out (by decide), HM4.out.cell HX4.out (by decide), HR4.out.stored (by have := HZ1.out; have := HGL.out; omega), grown_stored HG4.out (by have := HZ1.out; omega), fun _ => rfl, by omega⟩⟩
      case measure => simp [intOf]
    · have HRR := hide_ (show Rdr wr g (nodesB nl ++ t) 0 from HK.out.rdr)
      go_wp2_with fail
      refine (getNodes_put nl t g _ wr HRR.out rfl HH2.out HL.out.2).mono ?_
      rintro en w4 ⟨A4, c4, rfl, ho4, hr4, hg4⟩
      have hzr : w.heap.size ≤ wr.heap.size := HK.out.grow.size
      have HX4 := hide_ (show BoxAt w4 z1 _ _ from box_far hg4 HK.out.box (by have := HZ1.out; have := HGL.out; omega))
      have HY4 := hide_ (show BoxAt w4 w.heap.size _ _ from box_far hg4 HK.out.zero (by have := HGL.out; omega))
      have HN4 := hide_ (show NFresh w4 w.heap.size ⟨A4, c4, nl⟩ from ⟨own_mono ho4 hzr, by have := HH2.out; simp only; omega⟩)
      have HM4 := hide_ (HK.out.old.grown hg4 (fun z e => by injection e with e; have := HGL.out; omega))
      have HG4 := hide_ (grown_join HK.out.grow hg4)
      have HR4 := hide_ hr4
      have HO1 := hide_ (HK.out.one (by omega))
      clear ho4 hr4 hg4 HK HRR
      have hzx : z1 < w4.heap.size := HX4.out.lt
      have c0 := HX4.out.cell 1
      simp at c0
      have f0 := HX4.out.free9 1
      go_wp2
      clear c0 f0
      go_roundw
      case rel => exact ⟨2, o, ⟨A4, c4, nl⟩, by omega, by go_num, hide_ ⟨HX4.out.set9 1 _, box_apart HY4.out (by have := HZ1.out; omega), HM4.out.cell HX4.out (by decide), HN4.out.cell HX4.out (by decide), HR4.out.stored (by have := HZ1.out; have := HGL.out; omega), grown_stored HG4.out (by have := HZ1.out; omega), fun _ => HO1.out, fun _ => rfl⟩⟩
      case measure => simp [intOf]
    · have hzx : z1 < wr.heap.size := HK.out.box.lt
      have HRR := hide_ (show Rdr wr g t 0 from HK.out.rdr)
      have HO1 := hide_ (show o.l = ol from HK.out.one (by omega))
      have HN1 := hide_ (show n.l = nl from HK.out.two (by omega))
      have HX := hide_ HK.out.box
      have HY := hide_ HK.out.zero
      have HFO := hide_ HK.out.old
      have HFN := hide_ HK.out.new
      have HG := hide_ HK.out.grow
      clear HK
      obtain ⟨oA, oc, ol'⟩ := o
      obtain ⟨nA, nc, nl'⟩ := n
      simp only at HO1 HN1
      obtain rfl := HO1.out
      obtain rfl := HN1.out
      simp only [NdM.v] at HX
      go_wp2_with fail
      refine (failedC_live HRR.out).mono ?_
      rintro en w5 ⟨rfl, rfl⟩
      have c0 := HX.out.cell 0
      have c1 := HX.out.cell 1
      simp at c0 c1
      obtain ⟨y, hy⟩ : ∃ y : CfM, y = ⟨C, ⟨oA, oc, ol'⟩, ⟨nA, nc, nl'⟩⟩ := ⟨_, rfl⟩
      have HBC := hide_ (show ∀ u, (Instr.build 52 #[(0, .int .u64 C), (1, .slice oA ol'.length oc), (2, .slice nA nl'.length nc)]).run Tryz.prog u = .ok (.agg y.cs.toArray) u from fun u => by rw [hy]; exact build_cfv C oA nA _ oc _ nc u)
      have HYP := hide_ (show y.p = (C, ol', nl') from by rw [hy]; rfl)
      have HYF := hide_ (fun (u : World) (h1 : NFresh u w.heap.size ⟨oA, oc, ol'⟩) (h2 : NFresh u w.heap.size ⟨nA, nc, nl'⟩) => show CFresh u w.heap.size y from by rw [hy]; exact ⟨HC.out, h1, h2⟩)
      have HYV := hide_ (show y.v = .agg y.cs.toArray from by rw [hy]; rfl)
      have HYN := hide_ (show y.cs.toArray.size = 3 from rfl)
      have HYO := hide_ (show y.cs.toArray.all (·.oneCell') = true from by rw [hy]; simp [CfM.cs, NdM.v, Value.oneCell'])
      have HMY := hide_ (fun (u : World) (hf : CFresh u w.heap.size y) => show Calls Tryz.prog 89 #[.agg y.cs.toArray] u fun e w' => e = .returned (.bool true) ∧ Below u.heap.size u w' from by have h := cMay_any y.C y.o y.n u.heap.size u hf.ok.2.1 hf.ok.2.2 (Nat.le_refl _); rw [show mayC y.C y.o.l y.n.l = true from by rw [hy]; exact HMAY.out] at h; exact h)
      clear hy HMAY HO1 HN1
      obtain ⟨yc, hyc⟩ : ∃ c, y.cs.toArray = c := ⟨_, rfl⟩
      rw [hyc] at HYV HYN HYO
      simp only [hyc] at HBC HMY
      clear hyc
      have HZR := hide_ (show w.heap.size ≤ wr.heap.size from HG.out.size)
      go_upto_region 11 with (first | (refine bldG_known 52 _ (by rfl) (by rfl) #[(0, .int .u64 C), (1, .slice oA ol'.length oc), (2, .slice nA nl'.length nc)] (by kernel_rfl) (HBC.out _) ?_) | (refine alloc_whole 52 (by rfl) (by rfl) confz_info ?_; intro W3 HX3 HB3 HS3) | (refine store_whole 52 (by rfl) _ _ (by rfl) conf_size (by rfl) (by rfl) (cs := yc) (by rfl) HYN.out HYO.out HX3.out (by rfl) ?_; intro W4 HX4 HG4 HS4))
      have hgz : g < wr.heap.size := HRR.out.glt
      have HO3 := hide_ (own_below HFO.out.1 HB3.out)
      have HN3 := hide_ (own_below HFN.out.1 HB3.out)
      have HF4 := hide_ (HYF.out W4 ⟨own_other9 HO3.out (HX3.out.apart9 (by decide) HO3.out) HG4.out, HFO.out.2⟩ ⟨own_other9 HN3.out (HX3.out.apart9 (by decide) HN3.out) HG4.out, HFN.out.2⟩)
      have HG5 := hide_ (grown_also (grown_low HG.out (HB3.out.mono HZR.out)) HG4.out (fun k e => by injection e with e; have := HZR.out; omega))
      have HR5 := hide_ ((HRR.out.below HB3.out).other HG4.out (fun k e => by injection e with e; omega))
      have HY5 := hide_ (show BoxAt W4 w.heap.size zeroCf.cs.toArray 52 from box_far HG4.out (HY.out.below HB3.out) (by have := HY.out.lt; omega))
      clear HO3 HN3 HFO HFN HG HRR HY HX HX3 HB3 HG4 HS4 HBC hgz c0 c1 hzx
      have hzx : wr.heap.size < W4.heap.size := HX4.out.lt
      go_wp2_with (refine load_whole 52 (by rfl) _ (by rfl) conf_size conf_row HX4.out (by rfl) HYN.out ?_)
      refine (HMY.out _ HF4.out).mono ?_
      rintro en w5 ⟨rfl, hb5⟩
      have HX6 := hide_ (HX4.out.below hb5)
      have HY6 := hide_ (HY5.out.below hb5)
      have HR6 := hide_ (HR5.out.below hb5)
      have HG6 := hide_ (grown_below HG5.out hb5)
      have HF6 := hide_ (show CFresh w5 w.heap.size y from ⟨HF4.out.1, ⟨own_below HF4.out.2.1.1 hb5, HF4.out.2.1.2⟩, ⟨own_below HF4.out.2.2.1 hb5, HF4.out.2.2.2⟩⟩)
      clear hzx hb5 HX4 HY5 HR5 HG5 HF4 HMY
      have hzx : wr.heap.size < w5.heap.size := HX6.out.lt
      have hzy : w.heap.size < w5.heap.size := HY6.out.lt
      go_wp2_with (first | (refine load_whole 52 (by rfl) _ (by rfl) conf_size conf_row HX6.out (by rfl) HYN.out ?_) | (refine store_whole 52 (by rfl) _ _ (by rfl) conf_size (by rfl) (by rfl) (cs := yc) (by rfl) HYN.out HYO.out HY6.out (by rfl) ?_; intro W7 HX7 HG7 HS7))
      refine bodyPost_ret (res_whole conf_size conf_row (by rfl) (by rfl) HX7.out HYN.out) rfl ?_
      have hgl := HGL.out
      refine HFD.out _ _ y (by rw [HYV.out]) HYP.out ⟨HF6.out.1, ⟨own_other9 HF6.out.2.1.1 (HY6.out.apart9 (by decide) HF6.out.2.1.1) HG7.out, HF6.out.2.1.2⟩, ⟨own_other9 HF6.out.2.2.1 (HY6.out.apart9 (by decide) HF6.out.2.2.1) HG7.out, HF6.out.2.2.2⟩⟩ (HR6.out.other HG7.out (fun k e => by injection e with e; omega)) (grown_also HG6.out HG7.out (fun k e => by injection e with e; omega))
end Go.Proofs.YtnkjdijbfnmnhaaGreat
