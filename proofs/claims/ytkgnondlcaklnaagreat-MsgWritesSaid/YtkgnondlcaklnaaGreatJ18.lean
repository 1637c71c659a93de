/-
  Texts of this claim put together: MayT, MayT2, FindT.
-/
import Derived.Test.YtkgnondlcaklnaaGreatJ12
import Derived.Test.YtkgnondlcaklnaaGreatJ14
import Derived.Shelf.Abstract
/-
  Contracts of table's functions that tell which contracts may be.
-/
namespace Go.Proofs.YtkgnondlcaklnaaGreat
open Go.RowKit

theorem within_any (n a b : Int) (w : World) : Calls Tryz.prog 98 #[.int .i64 n, .int .i64 a, .int .i64 b] w fun e w' => e = .returned (.bool (inB n a b)) ∧ w = w' := by
  by_cases h : a ≤ n
  · by_cases h2 : n ≤ b
    · have HR := hide_ (inB_true.2 ⟨h, h2⟩)
      have hd := decide_eq_true h
      have hd2 := decide_eq_true h2
      go_enter Tryz.func98, Tryz.ntmps98
      go_wp2
      go_ret
      exact ⟨ret_boolT HR.out.symm, rfl⟩
    · have HR := hide_ (inB_false.2 (.inr (by omega)) : inB n a b = false)
      have hd := decide_eq_true h
      have hd2 := decide_eq_false h2
      go_enter Tryz.func98, Tryz.ntmps98
      go_wp2
      go_ret
      exact ⟨ret_boolT HR.out.symm, rfl⟩
  · have HR := hide_ (inB_false.2 (.inl (by omega)) : inB n a b = false)
    have hd := decide_eq_false h
    go_enter Tryz.func98, Tryz.ntmps98
    go_wp2
    go_ret
    exact ⟨ret_boolT HR.out.symm, rfl⟩

theorem mayAction_any (n : Int) (w : World) : Calls Tryz.prog 136 #[.int .i64 n] w fun e w' => e = .returned (.bool (inB n 0 31)) ∧ w = w' := by
  go_enter Tryz.func136, Tryz.ntmps136
  go_wp2_with fail
  refine (within_any _ _ _ _).mono ?_
  rintro en w1 ⟨rfl, rfl⟩
  go_wp2
  go_ret
  exact ⟨rfl, rfl⟩

theorem toks_n63 {w : World} {B : Nat} {s : TokS} (h : toksOk w B s) : s.l.length ≤ maxLen := Nat.le_trans h.1 h.2.1

theorem mayNot_any (s : TokS) (n : Nat) (hn : s.l.length = n) (bt : Nat) (vs : Int) (B : Nat) (w : World) (hs : toksOk w B s) (hB : B ≤ w.heap.size) (hv : w.cell? ⟨bt, 1, none⟩ = some (.int .i64 vs)) :
    Calls Tryz.prog 134 #[.slice s.A n s.c, .pointer (some ⟨bt, 0, none⟩)] w fun e w' => e = .returned (.bool (!(mayB s.l vs))) ∧ Below w.heap.size w w' := by
  obtain ⟨q, hq⟩ : ∃ q, mayB s.l vs = q := ⟨_, rfl⟩
  subst hn
  have HC := hide_ (May_any s.l B s.A s.l.length s.c vs w rfl (toks_n63 hs) hs.2.2.1 hB)
  rw [hq] at HC
  rw [hq]
  clear hq hs hB
  generalize s.l.length = n at HC ⊢
  go_enter Tryz.func134, Tryz.ntmps134
  go_wp2_with fail
  refine HC.out.mono ?_
  rintro en w1 ⟨rfl, hb⟩
  go_wp2
  go_ret
  exact ⟨rfl, hb⟩

/-- the function that tells which formulas may not be -/
def mayNotV (bt : Nat) : Value := .func (.func 134) #[] #[.pointer (some ⟨bt, 0, none⟩)]

/-- what maySets keeps while it goes through Sets -/
def SetsI (l : List SetM) (vs : Int) (bt bl bv bn : Nat) (k : Nat) (w : World) : Prop :=
  w.cell? ⟨bl, 0, none⟩ = some (.int .i64 (leastB l k)) ∧ w.frozen? ⟨bl, 0, none⟩ = false ∧ w.cell? ⟨bv, 0, none⟩ = some (.int .i64 vs) ∧ w.cell? ⟨bn, 0, none⟩ = some (mayNotV bt) ∧ w.cell? ⟨bt, 1, none⟩ = some (.int .i64 vs) ∧
    (bl < w.heap.size ∧ bv < w.heap.size ∧ bn < w.heap.size ∧ bt < w.heap.size)

theorem SetsI.below {l : List SetM} {vs : Int} {bt bl bv bn k : Nat} {w w' : World} (h : SetsI l vs bt bl bv bn k w) (hb : Below w.heap.size w w') : SetsI l vs bt bl bv bn k w' := by
  obtain ⟨h1, h2, h3, h4, h5, b1, b2, b3, b4⟩ := h
  have hz := hb.size
  exact ⟨(hb.cell (p := ⟨bl, 0, none⟩) b1).trans h1, (hb.frozen (p := ⟨bl, 0, none⟩) b1).trans h2, (hb.cell (p := ⟨bv, 0, none⟩) b2).trans h3, (hb.cell (p := ⟨bn, 0, none⟩) b3).trans h4, (hb.cell (p := ⟨bt, 1, none⟩) b4).trans h5, by omega, by omega, by omega, by omega⟩

theorem setX_at {vs : Int} {l : List SetM} {k : Nat} {x : SetM} (h : l[k]? = some x) : setX vs l k = (!(inB x.var (leastB l k) (vs - 1)) || !(mayB x.val.l vs)) := by unfold setX; rw [h]
theorem leastB_succ {l : List SetM} {k : Nat} {x : SetM} (h : l[k]? = some x) : leastB l (k + 1) = x.var + 1 := by show (match l[k]? with | some s => s.var + 1 | none => 0) = _; rw [h]

theorem SetsI.step {l : List SetM} {vs : Int} {bt bl bv bn k : Nat} {w : World} {z : Int} (h : SetsI l vs bt bl bv bn k w) (hz : leastB l (k + 1) = z) (hne : bl ≠ bv ∧ bl ≠ bn ∧ bl ≠ bt) : SetsI l vs bt bl bv bn (k + 1) (w.setCell ⟨bl, 0, none⟩ (.int .i64 z)) := by
  obtain ⟨h1, h2, h3, h4, h5, b1, b2, b3, b4⟩ := h
  refine ⟨?_, by rw [World.frozen?_setCell]; exact h2, ?_, ?_, ?_, by simpa [World.setCell] using b1, by simpa [World.setCell] using b2, by simpa [World.setCell] using b3, by simpa [World.setCell] using b4⟩
  · rw [hz]; exact World.cell?_setCell_same _ _ _ h1
  · rw [World.cell?_setCell_other _ _ _ _ (fun e => by injection e with e; omega)]; exact h3
  · rw [World.cell?_setCell_other _ _ _ _ (fun e => by injection e with e; omega)]; exact h4
  · rw [World.cell?_setCell_other _ _ _ _ (fun e => by injection e with e; omega)]; exact h5

set_option maxRecDepth 100000 in
theorem oneSet_any (l : List SetM) (vs : Int) (bt bl bv bn : Nat) (B k : Nat) (x : SetM) (w : World) (hx : l[k]? = some x) (hv : 0 ≤ vs ∧ vs ≤ 8) (hs : SetM.ok w B x) (hB : B ≤ w.heap.size) (hI : SetsI l vs bt bl bv bn k w) (hbl : B ≤ bl) (hne : bl ≠ bv ∧ bl ≠ bn ∧ bl ≠ bt) :
    Calls Tryz.prog 191 #[x.v, .pointer (some ⟨bl, 0, none⟩), .pointer (some ⟨bv, 0, none⟩), .pointer (some ⟨bn, 0, none⟩)] w (Ans B w (setX vs l k) (SetsI l vs bt bl bv bn (k + 1))) := by
  obtain ⟨var, val⟩ := x
  have HX := hide_ (setX_at (vs := vs) hx)
  have HL := hide_ (leastB_succ hx)
  have HI := hide_ hI
  obtain ⟨h1, h2, h3, h4, h5, b1, b2, b3, b4⟩ := hI
  have HNE := hide_ hne
  obtain ⟨hv1, hv2⟩ := hv
  obtain ⟨n1, n2, n3⟩ := hne
  have HV := hide_ hs.2
  have hi : I64 var := hs.1
  unfold I64 at hi
  obtain ⟨i1, i2⟩ := hi
  generalize leastB l k = lea at h1 HX
  clear hx hs
  obtain ⟨vA, vc, vl⟩ := val
  obtain ⟨vn, hnn⟩ : ∃ vn, vl.length = vn := ⟨_, rfl⟩
  simp only [SetM.v, Sl.v, mayNotV, hnn] at h4 HX HV ⊢
  cases hq : inB var lea (vs - 1) with
  | false =>
    have HR := hide_ (show setX vs l k = true by rw [HX.out, hq]; rfl)
    have HQ := hide_ hq
    clear hq
    go_enter Tryz.func191, Tryz.ntmps191
    go_wp2_with fail
    refine (within_any _ _ _ _).mono ?_
    rw [HQ.out]
    rintro en w1 ⟨rfl, rfl⟩
    go_wp2
    go_ret
    exact ⟨ret_boolT HR.out.symm, (fun h => by rw [HR.out] at h; cases h), (Below.refl _ _).alloc hB _⟩
  | true =>
    have hq2 := inB_true.1 hq
    have HQ := hide_ hq
    clear hq
    have hvar : var ≤ 7 := by omega
    have hvar0 : -9223372036854775807 ≤ var + 1 := by omega
    obtain ⟨m, hm⟩ : ∃ m, mayB vl vs = m := ⟨_, rfl⟩
    have HR := hide_ (show setX vs l k = !m by rw [HX.out, HQ.out, hm]; rfl)
    have HM := hide_ hm
    have HN := hide_ hnn
    clear hm hnn hq2
    go_enter Tryz.func191, Tryz.ntmps191
    go_wp2_with fail
    refine (within_any _ _ _ _).mono ?_
    rw [HQ.out]
    rintro en w1 ⟨rfl, rfl⟩
    go_wp2_with fail
    have hsz : ((w.setCell ⟨bl, 0, none⟩ (.int .i64 (var + 1))).heap.size) = w.heap.size := by simp [World.setCell]
    have HB := hide_ (show Below B w ((w.setCell ⟨bl, 0, none⟩ (.int .i64 (var + 1))).alloc (.cells #[.int .i64 var, .slice vA vn vc] 105)) from ((Below.refl B w).setCell hbl _).alloc (by rw [hsz]; exact hB) _)
    have HI1 := hide_ ((HI.out.step HL.out HNE.out).below ((Below.refl _ _).alloc (Nat.le_refl _) (.cells #[.int .i64 var, .slice vA vn vc] 105)))
    refine (mayNot_any ⟨vA, vc, vl⟩ vn HN.out bt vs B _ (toks_stable.below HV.out HB.out) (by simp; omega) HI1.out.2.2.2.2.1).mono ?_
    rw [HM.out]
    rintro en w2 ⟨rfl, hb2⟩
    have HB2 := hide_ hb2
    clear hb2
    go_wp2
    go_ret
    exact ⟨ret_boolT HR.out.symm, (fun _ => HI1.out.below HB2.out), HB.out.trans (HB2.out.mono (by simp; omega))⟩

theorem not_long (m n : Nat) (b : Bool) : (!(decide ((m : Int) < n) || b)) = (decide (n ≤ m) && !b) := by
  by_cases h : n ≤ m
  · rw [decide_eq_false (by omega), decide_eq_true h]; simp
  · rw [decide_eq_true (by omega), decide_eq_false h]; simp
theorem app1 (a b : Value) : #[a] ++ #[b] = #[a, b] := rfl
theorem app3 (a b c d : Value) : #[a] ++ #[b, c, d] = #[a, b, c, d] := rfl
theorem app5 (a b c d e f : Value) : #[a] ++ #[b, c, d, e, f] = #[a, b, c, d, e, f] := rfl
theorem ent_set : Enters Tryz.prog 191 := enters_of Tryz.func191 (by kernel_rfl) rfl
theorem ent_em : Enters Tryz.prog 193 := enters_of Tryz.func193 (by kernel_rfl) rfl
theorem ent_ru : Enters Tryz.prog 100 := enters_of Tryz.func100 (by kernel_rfl) rfl
theorem ent_tak : Enters Tryz.prog 194 := enters_of Tryz.func194 (by kernel_rfl) rfl

theorem maySets_any (s : Sl SetM) (vs : Int) (bt : Nat) (B : Nat) (w : World) (hv : 0 ≤ vs ∧ vs ≤ 8) (hs : setsOk w B s) (hB : B ≤ w.heap.size) (hbt : w.cell? ⟨bt, 1, none⟩ = some (.int .i64 vs)) (hlt : bt < w.heap.size) :
    Calls Tryz.prog 137 #[s.v, .int .i64 vs, mayNotV bt] w fun e w' => e = .returned (.bool (setsB vs s.l)) ∧ Below w.heap.size w w' := by
  have hb3 : Below w.heap.size w (((w.alloc (.cells #[.int .i64 vs] 3)).alloc (.cells #[mayNotV bt] 182)).alloc (.cells #[.int .i64 0] 3)) :=
    (((Below.refl _ _).alloc (Nat.le_refl _) _).alloc (by simp) _).alloc (by simp; omega) _
  have hI0 : SetsI s.l vs bt (w.heap.size + 1 + 1) w.heap.size (w.heap.size + 1) 0 (((w.alloc (.cells #[.int .i64 vs] 3)).alloc (.cells #[mayNotV bt] 182)).alloc (.cells #[.int .i64 0] 3)) := by
    refine ⟨?_, ?_, ?_, ?_, ?_, by simp, by simp; omega, by simp, by simp; omega⟩
    · rw [World.cell?_alloc_at _ _ _ _ (by simp)]; rfl
    · rw [World.frozen?_alloc_at _ _ _ _ (by simp)]
    · rw [World.cell?_alloc_past _ _ _ (by simp; omega), World.cell?_alloc_past _ _ _ (by simp), World.cell?_alloc_at _ _ _ _ rfl]; rfl
    · rw [World.cell?_alloc_past _ _ _ (by simp), World.cell?_alloc_at _ _ _ _ (by simp)]; rfl
    · rw [World.cell?_alloc_past _ _ _ (by simp; omega), World.cell?_alloc_past _ _ _ (by simp; omega), World.cell?_alloc_past _ _ _ hlt]; exact hbt
  have hz := hs.1
  have HC := hide_ (faultySet_any (setX vs s.l) (SetsI s.l vs bt (w.heap.size + 1 + 1) w.heap.size (w.heap.size + 1)) 191 #[.pointer (some ⟨w.heap.size + 1 + 1, 0, none⟩), .pointer (some ⟨w.heap.size, 0, none⟩), .pointer (some ⟨w.heap.size + 1, 0, none⟩)] s 8 w.heap.size _
    (sets_stable.below (sets_stable.more hs hB) hb3) hb3.size hI0 ent_set (fun k x wr hx hb hI => by
      rw [app3]
      exact oneSet_any s.l vs bt _ _ _ w.heap.size k x wr hx hv (set_stable.below (set_stable.more (hs.2.2.2 x (List.mem_of_getElem? hx)) hB) (hb3.trans hb)) (Nat.le_trans hb3.size hb.size) hI (by omega) ⟨by omega, by omega, by omega⟩))
  have HR := hide_ (show (!(decide ((8 : Int) < s.l.length) || anyB (setX vs s.l) s.l.length)) = setsB vs s.l from not_long 8 _ _)
  have HB3 := hide_ hb3
  clear hs hB hbt hI0 hb3 hz
  generalize (decide ((8 : Int) < s.l.length) || anyB (setX vs s.l) s.l.length) = q at HC HR
  generalize s.v = sv at HC
  simp only [mayNotV] at HC HB3 ⊢
  go_enter Tryz.func137, Tryz.ntmps137
  go_wp2_with fail
  refine HC.out.mono ?_
  rintro en w1 ⟨rfl, hb⟩
  go_wp2
  go_ret
  exact ⟨ret_boolT HR.out, HB3.out.trans hb⟩
end Go.Proofs.YtkgnondlcaklnaaGreat

/-
  Contracts of table's May, Find and what they call.
-/
namespace Go.Proofs.YtkgnondlcaklnaaGreat
open Go.RowKit

/-- what mayEmits keeps while it goes through Emits -/
def EmsI (vs : Int) (bt bn : Nat) (w : World) : Prop :=
  w.cell? ⟨bn, 0, none⟩ = some (mayNotV bt) ∧ w.cell? ⟨bt, 1, none⟩ = some (.int .i64 vs) ∧ (bn < w.heap.size ∧ bt < w.heap.size)
theorem EmsI.below {vs : Int} {bt bn : Nat} {w w' : World} (h : EmsI vs bt bn w) (hb : Below w.heap.size w w') : EmsI vs bt bn w' := by
  obtain ⟨h1, h2, b1, b2⟩ := h
  have hz := hb.size
  exact ⟨(hb.cell (p := ⟨bn, 0, none⟩) b1).trans h1, (hb.cell (p := ⟨bt, 1, none⟩) b2).trans h2, by omega, by omega⟩
theorem emX_at {vs : Int} {l : List EmM} {k : Nat} {e : EmM} (h : l[k]? = some e) : emX vs l k = (decide (16 ≤ e.tg) || (!(inB e.ac 0 31) || !(mayB e.arg.l vs))) := by unfold emX; rw [h]

set_option maxRecDepth 100000 in
theorem oneEm_any (l : List EmM) (vs : Int) (bt bn : Nat) (B k : Nat) (x : EmM) (w : World) (hx : l[k]? = some x) (hs : EmM.ok w B x) (hB : B ≤ w.heap.size) (hI : EmsI vs bt bn w) :
    Calls Tryz.prog 193 #[x.v, .pointer (some ⟨bn, 0, none⟩)] w (Ans B w (emX vs l k) (EmsI vs bt bn)) := by
  obtain ⟨tg, ac, arg⟩ := x
  have HX := hide_ (emX_at (vs := vs) hx)
  have HI := hide_ hI
  obtain ⟨h1, h2, b1, b2⟩ := hI
  have HV := hide_ hs.2.2
  have hi : 0 ≤ tg ∧ tg ≤ 255 := hs.1
  obtain ⟨i1, i2⟩ := hi
  clear hx hs
  obtain ⟨vA, vc, vl⟩ := arg
  obtain ⟨vn, hnn⟩ : ∃ vn, vl.length = vn := ⟨_, rfl⟩
  simp only [EmM.v, Sl.v, mayNotV, hnn] at h1 HX HV ⊢
  have HN := hide_ hnn
  clear hnn
  by_cases ht : 16 ≤ tg
  · have HR := hide_ (show emX vs l k = true by rw [HX.out, decide_eq_true ht]; rfl)
    have hd := decide_eq_true ht
    go_enter Tryz.func193, Tryz.ntmps193
    go_wp2
    go_ret
    exact ⟨ret_boolT HR.out.symm, (fun h => by rw [HR.out] at h; cases h), (Below.refl _ _).alloc hB _⟩
  have hd := decide_eq_false ht
  obtain ⟨q, hq⟩ : ∃ q, inB ac 0 31 = q := ⟨_, rfl⟩
  obtain ⟨m, hm⟩ : ∃ m, mayB vl vs = m := ⟨_, rfl⟩
  have HR := hide_ (show emX vs l k = (!q || !m) by rw [HX.out, hd, hq, hm]; rfl)
  have HQ := hide_ hq
  have HM := hide_ hm
  clear hq hm
  have HB := hide_ (show Below B w (w.alloc (.cells #[.int .u8 tg, .int .i64 ac, .slice vA vn vc] 107)) from (Below.refl B w).alloc hB _)
  have HI1 := hide_ (HI.out.below ((Below.refl _ _).alloc (Nat.le_refl _) (.cells #[.int .u8 tg, .int .i64 ac, .slice vA vn vc] 107)))
  cases q with
  | false =>
    go_enter Tryz.func193, Tryz.ntmps193
    go_wp2_with fail
    refine (mayAction_any _ _).mono ?_
    rw [HQ.out]
    rintro en w1 ⟨rfl, rfl⟩
    go_wp2
    go_ret
    exact ⟨ret_boolT HR.out.symm, (fun h => by rw [HR.out] at h; cases h), HB.out⟩
  | true =>
    go_enter Tryz.func193, Tryz.ntmps193
    go_wp2_with fail
    refine (mayAction_any _ _).mono ?_
    rw [HQ.out]
    rintro en w1 ⟨rfl, rfl⟩
    go_wp2_with fail
    refine (mayNot_any ⟨vA, vc, vl⟩ vn HN.out bt vs B _ (toks_stable.below HV.out HB.out) (by simp; omega) HI1.out.2.1).mono ?_
    rw [HM.out]
    rintro en w2 ⟨rfl, hb2⟩
    have HB2 := hide_ hb2
    clear hb2
    go_wp2
    go_ret
    exact ⟨ret_boolT HR.out.symm, (fun _ => HI1.out.below HB2.out), HB.out.trans (HB2.out.mono (by simp; omega))⟩

theorem mayEmits_any (s : Sl EmM) (vs : Int) (bt : Nat) (B : Nat) (w : World) (hs : emsOk w B s) (hB : B ≤ w.heap.size) (hbt : w.cell? ⟨bt, 1, none⟩ = some (.int .i64 vs)) (hlt : bt < w.heap.size) :
    Calls Tryz.prog 138 #[s.v, mayNotV bt] w fun e w' => e = .returned (.bool (emsB vs s.l)) ∧ Below w.heap.size w w' := by
  have hb3 : Below w.heap.size w (w.alloc (.cells #[mayNotV bt] 182)) := (Below.refl _ _).alloc (Nat.le_refl _) _
  have hI0 : EmsI vs bt w.heap.size (w.alloc (.cells #[mayNotV bt] 182)) := by
    refine ⟨?_, ?_, by simp, by simp; omega⟩
    · rw [World.cell?_alloc_at _ _ _ _ rfl]; rfl
    · rw [World.cell?_alloc_past _ _ _ hlt]; exact hbt
  have HC := hide_ (faultyEmit_any (emX vs s.l) (fun _ => EmsI vs bt w.heap.size) 193 #[.pointer (some ⟨w.heap.size, 0, none⟩)] s 4 w.heap.size _
    (ems_stable.below (ems_stable.more hs hB) hb3) hb3.size hI0 ent_em (fun k x wr hx hb hI => by
      rw [app1]
      exact oneEm_any s.l vs bt _ w.heap.size k x wr hx (em_stable.below (em_stable.more (hs.2.2.2 x (List.mem_of_getElem? hx)) hB) (hb3.trans hb)) (Nat.le_trans hb3.size hb.size) hI))
  have HR := hide_ (show (!(decide ((4 : Int) < s.l.length) || anyB (emX vs s.l) s.l.length)) = emsB vs s.l from not_long 4 _ _)
  have HB3 := hide_ hb3
  clear hs hB hbt hI0 hb3
  generalize (decide ((4 : Int) < s.l.length) || anyB (emX vs s.l) s.l.length) = q at HC HR
  generalize s.v = sv at HC
  simp only [mayNotV] at HC HB3 ⊢
  go_enter Tryz.func138, Tryz.ntmps138
  go_wp2_with fail
  refine HC.out.mono ?_
  rintro en w1 ⟨rfl, hb⟩
  go_wp2
  go_ret
  exact ⟨ret_boolT HR.out, HB3.out.trans hb⟩

set_option maxRecDepth 100000 in
set_option maxHeartbeats 1600000 in
theorem mayRule_any (st vs : Int) (t : Sl RuM) (r : RuM) (B : Nat) (w : World) (h1 : 1 ≤ st ∧ st ≤ 32) (h2 : 0 ≤ vs ∧ vs ≤ 8) (hs : RuM.ok w B r) (hB : B ≤ w.heap.size) :
    Calls Tryz.prog 101 #[tabV st vs t, r.v] w fun e w' => e = .returned (.bool (ruB st vs r)) ∧ Below w.heap.size w w' := by
  obtain ⟨fr, ac, pa, tt, ⟨gA, gc, gl⟩, ⟨sA, sc, sl⟩, ⟨eA, ec, el⟩⟩ := r
  obtain ⟨-, hg, hse, hem⟩ := hs
  simp only at hg hse hem
  obtain ⟨tA, tc, tl⟩ := t
  obtain ⟨gn, hgn⟩ : ∃ n, gl.length = n := ⟨_, rfl⟩
  have gmax : gn ≤ 9223372036854775807 := by have := toks_n63 hg; simp only [hgn] at this; exact this
  obtain ⟨b1, hb1⟩ : ∃ b, inB fr 0 (st - 1) = b := ⟨_, rfl⟩
  obtain ⟨b2, hb2⟩ : ∃ b, inB tt 0 (st - 1) = b := ⟨_, rfl⟩
  obtain ⟨b3, hb3⟩ : ∃ b, inB ac 0 31 = b := ⟨_, rfl⟩
  obtain ⟨b4, hb4⟩ : ∃ b, inB pa 0 7 = b := ⟨_, rfl⟩
  obtain ⟨b5, hb5⟩ : ∃ b, mayB gl vs = b := ⟨_, rfl⟩
  obtain ⟨b6, hb6⟩ : ∃ b, setsB vs sl = b := ⟨_, rfl⟩
  obtain ⟨b7, hb7⟩ : ∃ b, emsB vs el = b := ⟨_, rfl⟩
  have HR := hide_ (show ruB st vs ⟨fr, ac, pa, tt, ⟨gA, gc, gl⟩, ⟨sA, sc, sl⟩, ⟨eA, ec, el⟩⟩ = (b1 && (b2 && (b3 && (b4 && ((decide (gn = 0) || b5) && (b6 && b7)))))) by
    unfold ruB guB
    rw [hb1, hb2, hb3, hb4, hb5, hb6, hb7, hgn])
  generalize ruB st vs ⟨fr, ac, pa, tt, ⟨gA, gc, gl⟩, ⟨sA, sc, sl⟩, ⟨eA, ec, el⟩⟩ = RR at HR
  have HB1 := hide_ hb1
  have HB2 := hide_ hb2
  have HB3 := hide_ hb3
  have HB4 := hide_ hb4
  have HB5 := hide_ hb5
  have HB6 := hide_ hb6
  have HB7 := hide_ hb7
  have HGN := hide_ hgn
  clear hb1 hb2 hb3 hb4 hb5 hb6 hb7
  have hw2 : Below w.heap.size w ((w.alloc (.cells #[.int .i64 st, .int .i64 vs, .slice tA tl.length tc] 24)).alloc (.cells #[.int .i64 fr, .int .i64 ac, .int .i64 pa, .int .i64 tt, .slice gA gn gc, .slice sA sl.length sc, .slice eA el.length ec] 103)) :=
    ((Below.refl _ _).alloc (Nat.le_refl _) _).alloc (by simp) _
  have HG := hide_ (toks_stable.below (toks_stable.more hg hB) hw2)
  have HS := hide_ (sets_stable.below (sets_stable.more hse hB) hw2)
  have HE := hide_ (ems_stable.below (ems_stable.more hem hB) hw2)
  have hz2 := hw2.size
  have hvc : ((w.alloc (.cells #[.int .i64 st, .int .i64 vs, .slice tA tl.length tc] 24)).alloc (.cells #[.int .i64 fr, .int .i64 ac, .int .i64 pa, .int .i64 tt, .slice gA gn gc, .slice sA sl.length sc, .slice eA el.length ec] 103)).cell? ⟨w.heap.size, 1, none⟩ = some (.int .i64 vs) := by
    rw [World.cell?_alloc_past _ _ _ (by simp), World.cell?_alloc_at _ _ _ _ rfl]; rfl
  have HVC := hide_ hvc
  have HW2 := hide_ hw2
  simp only [tabV, RuM.v, Sl.v, hgn]
  clear hg hse hem hvc hgn hB
  have e1 : 1 ≤ st := h1.1
  have e2 : st ≤ 32 := h1.2
  have e3 : 0 ≤ vs := h2.1
  have e4 : vs ≤ 8 := h2.2
  clear h1
  have H2 := hide_ h2
  clear h2
  clear hw2
  go_enter Tryz.func101, Tryz.ntmps101
  go_wp2_with fail
  refine (within_any _ _ _ _).mono ?_
  rw [HB1.out]
  rintro en w1 ⟨rfl, rfl⟩
  cases b1 with
  | false =>
    have HR1 := hide_ (show RR = false from HR.out)
    go_wp2
    go_ret
    exact ⟨ret_boolT HR1.out.symm, HW2.out⟩
  | true =>
  go_wp2_with fail
  refine (within_any _ _ _ _).mono ?_
  rw [HB2.out]
  rintro en w1 ⟨rfl, rfl⟩
  cases b2 with
  | false =>
    have HR1 := hide_ (show RR = false from HR.out)
    go_wp2
    go_ret
    exact ⟨ret_boolT HR1.out.symm, HW2.out⟩
  | true =>
  go_wp2_with fail
  refine (mayAction_any _ _).mono ?_
  rw [HB3.out]
  rintro en w1 ⟨rfl, rfl⟩
  cases b3 with
  | false =>
    have HR1 := hide_ (show RR = false from HR.out)
    go_wp2
    go_ret
    exact ⟨ret_boolT HR1.out.symm, HW2.out⟩
  | true =>
  go_wp2_with fail
  refine (within_any _ _ _ _).mono ?_
  rw [HB4.out]
  rintro en w1 ⟨rfl, rfl⟩
  cases b4 with
  | false =>
    have HR1 := hide_ (show RR = false from HR.out)
    go_wp2
    go_ret
    exact ⟨ret_boolT HR1.out.symm, HW2.out⟩
  | true =>
  by_cases h0 : gn = 0
  · have HR1 := hide_ (show RR = (b6 && b7) by rw [HR.out, h0]; rfl)
    have hd : decide (0 < (gn : Int)) = false := decide_eq_false (by omega)
    have hd2 : decide (0 < gn) = false := decide_eq_false (by omega)
    clear HR h0
    go_wp2_with fail
    refine (maySets_any ⟨sA, sc, sl⟩ vs w.heap.size w.heap.size _ H2.out HS.out (by simp; omega) HVC.out (by simp; omega)).mono ?_
    rw [HB6.out]
    rintro en w3 ⟨rfl, hb3⟩
    have HB3' := hide_ hb3
    have hz3 := hb3.size
    clear hb3
    cases b6 with
    | false =>
      go_wp2
      go_ret
      exact ⟨ret_boolT HR1.out.symm, HW2.out.trans (HB3'.out.mono (by simp; omega))⟩
    | true =>
    have hw3 : w.heap.size + 2 ≤ w3.heap.size := by simpa using hz3
    clear hz3
    obtain ⟨hc, hf⟩ := bcell HB3'.out
    have hvc3 : w3.cell? ⟨w.heap.size, 1, none⟩ = some (.int .i64 vs) := (hc w.heap.size 1 (by simp; omega)).trans HVC.out
    have HVC3 := hide_ hvc3
    clear hvc3
    go_wp2_with fail
    refine (mayEmits_any ⟨eA, ec, el⟩ vs w.heap.size w.heap.size _ (ems_stable.below HE.out (HB3'.out.mono (by simp; omega))) (by omega) HVC3.out (by omega)).mono ?_
    rw [HB7.out]
    rintro en w4 ⟨rfl, hb4⟩
    have HB4' := hide_ hb4
    clear hb4 hc hf
    go_wp2
    go_ret
    exact ⟨ret_boolT HR1.out.symm, (HW2.out.trans (HB3'.out.mono (by simp; omega))).trans (HB4'.out.mono (by omega))⟩
  · have HR1 := hide_ (show RR = (b5 && (b6 && b7)) by rw [HR.out, decide_eq_false h0]; rfl)
    have hd : decide (0 < (gn : Int)) = true := decide_eq_true (by omega)
    have hd2 : decide (0 < gn) = true := decide_eq_true (by omega)
    clear HR
    go_wp2_with fail
    refine (mayNot_any ⟨gA, gc, gl⟩ gn HGN.out w.heap.size vs w.heap.size _ HG.out (by simp; omega) HVC.out).mono ?_
    rw [HB5.out]
    rintro en w3 ⟨rfl, hb3⟩
    have HB3' := hide_ hb3
    have hz3 := hb3.size
    clear hb3
    cases b5 with
    | false =>
      go_wp2
      go_ret
      exact ⟨ret_boolT HR1.out.symm, HW2.out.trans (HB3'.out.mono (by simp; omega))⟩
    | true =>
    have hw3 : w.heap.size + 2 ≤ w3.heap.size := by simpa using hz3
    clear hz3
    obtain ⟨hc, hf⟩ := bcell HB3'.out
    have hvc3 : w3.cell? ⟨w.heap.size, 1, none⟩ = some (.int .i64 vs) := (hc w.heap.size 1 (by simp; omega)).trans HVC.out
    have HVC3 := hide_ hvc3
    clear hvc3
    go_wp2_with fail
    refine (maySets_any ⟨sA, sc, sl⟩ vs w.heap.size w.heap.size _ H2.out (sets_stable.below HS.out (HB3'.out.mono (by simp; omega))) (by omega) HVC3.out (by omega)).mono ?_
    rw [HB6.out]
    rintro en w4 ⟨rfl, hb4⟩
    have HB4' := hide_ (HB3'.out.trans (hb4.mono HB3'.out.size))
    clear hb4 hc hf
    cases b6 with
    | false =>
      go_wp2
      go_ret
      exact ⟨ret_boolT HR1.out.symm, HW2.out.trans (HB4'.out.mono (by simp; omega))⟩
    | true =>
    have hz4 := HB4'.out.size
    have hw4 : w.heap.size + 2 ≤ w4.heap.size := by simpa using hz4
    clear hz4
    obtain ⟨hc, hf⟩ := bcell HB4'.out
    have hvc4 : w4.cell? ⟨w.heap.size, 1, none⟩ = some (.int .i64 vs) := (hc w.heap.size 1 (by simp; omega)).trans HVC.out
    have HVC4 := hide_ hvc4
    clear hvc4
    go_wp2_with fail
    refine (mayEmits_any ⟨eA, ec, el⟩ vs w.heap.size w.heap.size _ (ems_stable.below HE.out (HB4'.out.mono (by simp; omega))) (by omega) HVC4.out (by omega)).mono ?_
    rw [HB7.out]
    rintro en w5 ⟨rfl, hb5⟩
    have HB5' := hide_ hb5
    clear hb5 hc hf
    go_wp2
    go_ret
    exact ⟨ret_boolT HR1.out.symm, (HW2.out.trans (HB4'.out.mono (by simp; omega))).trans (HB5'.out.mono (by omega))⟩

/-- what May keeps while it goes through rules: the contract that it holds -/
def TabI (st vs : Int) (t : Sl RuM) (bt : Nat) (w : World) : Prop :=
  w.cell? ⟨bt, 0, none⟩ = some (.int .i64 st) ∧ w.cell? ⟨bt, 1, none⟩ = some (.int .i64 vs) ∧ w.cell? ⟨bt, 2, none⟩ = some (.slice t.A t.l.length t.c) ∧ bt < w.heap.size
theorem TabI.below {st vs : Int} {t : Sl RuM} {bt : Nat} {w w' : World} (h : TabI st vs t bt w) (hb : Below w.heap.size w w') : TabI st vs t bt w' := by
  obtain ⟨h1, h2, h3, b1⟩ := h
  have hz := hb.size
  exact ⟨(hb.cell (p := ⟨bt, 0, none⟩) b1).trans h1, (hb.cell (p := ⟨bt, 1, none⟩) b1).trans h2, (hb.cell (p := ⟨bt, 2, none⟩) b1).trans h3, by omega⟩
theorem TabI.new (st vs : Int) (t : Sl RuM) (w : World) : TabI st vs t w.heap.size (w.alloc (.cells #[.int .i64 st, .int .i64 vs, .slice t.A t.l.length t.c] 24)) := by
  refine ⟨?_, ?_, ?_, by simp⟩ <;> (rw [World.cell?_alloc_at _ _ _ _ rfl]; rfl)
theorem ruX_at {st vs : Int} {l : List RuM} {k : Nat} {x : RuM} (h : l[k]? = some x) : ruX st vs l k = !(ruB st vs x) := by unfold ruX; rw [h]

set_option maxRecDepth 100000 in
theorem oneRu_any (l : List RuM) (st vs : Int) (t : Sl RuM) (bt : Nat) (B k : Nat) (x : RuM) (w : World) (hx : l[k]? = some x) (h1 : 1 ≤ st ∧ st ≤ 32) (h2 : 0 ≤ vs ∧ vs ≤ 8) (hs : RuM.ok w B x) (hB : B ≤ w.heap.size) (hI : TabI st vs t bt w) :
    Calls Tryz.prog 100 #[x.v, .pointer (some ⟨bt, 0, none⟩)] w (Ans B w (ruX st vs l k) (TabI st vs t bt)) := by
  obtain ⟨q, hq⟩ : ∃ q, ruB st vs x = q := ⟨_, rfl⟩
  have HR := hide_ (show ruX st vs l k = !q by rw [ruX_at hx, hq])
  have HI := hide_ hI
  have HS := hide_ hs
  have H1 := hide_ h1
  have H2 := hide_ h2
  have HQ := hide_ hq
  obtain ⟨i1, i2, i3, i4⟩ := hI
  obtain ⟨fr, ac, pa, tt, ⟨gA, gc, gl⟩, ⟨sA, sc, sl⟩, ⟨eA, ec, el⟩⟩ := x
  obtain ⟨tA, tc, tl⟩ := t
  clear hs hx h1 h2 hq
  obtain ⟨gn, hgn⟩ : ∃ n, gl.length = n := ⟨_, rfl⟩
  obtain ⟨sn, hsn⟩ : ∃ n, sl.length = n := ⟨_, rfl⟩
  obtain ⟨ee, hen⟩ : ∃ n, el.length = n := ⟨_, rfl⟩
  obtain ⟨tn, htn⟩ : ∃ n, tl.length = n := ⟨_, rfl⟩
  have HB := hide_ ((Below.refl B w).alloc hB (.cells #[.int .i64 fr, .int .i64 ac, .int .i64 pa, .int .i64 tt, .slice gA gn gc, .slice sA sn sc, .slice eA ee ec] 103))
  have HC := hide_ (mayRule_any st vs ⟨tA, tc, tl⟩ ⟨fr, ac, pa, tt, ⟨gA, gc, gl⟩, ⟨sA, sc, sl⟩, ⟨eA, ec, el⟩⟩ B _ H1.out H2.out (ru_stable.below HS.out HB.out) (by simp; omega))
  simp only [RuM.v, Sl.v, tabV, hgn, hsn, hen, htn] at HC i3 ⊢
  rw [HQ.out] at HC
  clear hgn hsn hen htn HS HQ
  go_enter Tryz.func100, Tryz.ntmps100
  go_wp2_with fail
  refine HC.out.mono ?_
  rintro en w1 ⟨rfl, hb⟩
  have HB1 := hide_ hb
  clear hb
  go_wp2
  go_ret
  exact ⟨ret_boolT HR.out.symm, (fun _ => (HI.out.below ((Below.refl _ _).alloc (Nat.le_refl _) _)).below HB1.out), HB.out.trans (HB1.out.mono (by simp; omega))⟩

set_option maxRecDepth 100000 in
theorem MayT_any (st vs : Int) (t : Sl RuM) (B : Nat) (w : World) (hs : rusOk w B t) (hB : B ≤ w.heap.size) :
    Calls Tryz.prog 54 #[tabV st vs t] w fun e w' => e = .returned (.bool (mayT st vs t.l)) ∧ Below w.heap.size w w' := by
  obtain ⟨b1, hb1⟩ : ∃ b, inB st 1 32 = b := ⟨_, rfl⟩
  obtain ⟨b2, hb2⟩ : ∃ b, inB vs 0 8 = b := ⟨_, rfl⟩
  have HR := hide_ (show mayT st vs t.l = (b1 && (b2 && rusB st vs t.l)) by unfold mayT; rw [hb1, hb2])
  have hw1 : Below w.heap.size w (w.alloc (.cells #[.int .i64 st, .int .i64 vs, .slice t.A t.l.length t.c] 24)) := (Below.refl _ _).alloc (Nat.le_refl _) _
  have HC : Hid (inB st 1 32 = true → inB vs 0 8 = true → _) := hide_ (fun g1 g2 => faultyRule_any (ruX st vs t.l) (fun _ => TabI st vs t w.heap.size) 100 #[.pointer (some ⟨w.heap.size, 0, none⟩)] t 32 w.heap.size _
    (rus_stable.below (rus_stable.more hs hB) hw1) hw1.size (TabI.new st vs t w) ent_ru (fun k x wr hx hb hI => by
      rw [app1]
      exact oneRu_any t.l st vs t _ w.heap.size k x wr hx (inB_true.1 g1) (inB_true.1 g2) (ru_stable.below (ru_stable.more (hs.2.2.2 x (List.mem_of_getElem? hx)) hB) (hw1.trans hb)) (Nat.le_trans hw1.size hb.size) hI))
  have HN := hide_ (show (!(decide ((32 : Int) < t.l.length) || anyB (ruX st vs t.l) t.l.length)) = rusB st vs t.l from not_long 32 _ _)
  have HW := hide_ hw1
  have HB1 := hide_ hb1
  have HB2 := hide_ hb2
  clear hs hB hw1 hb1 hb2
  generalize (decide ((32 : Int) < t.l.length) || anyB (ruX st vs t.l) t.l.length) = q at HC HN
  generalize rusB st vs t.l = q2 at HN HR
  generalize mayT st vs t.l = q3 at HR ⊢
  obtain ⟨tA, tc, tl⟩ := t
  simp only [tabV, Sl.v] at HC HW HR ⊢
  generalize tl.length = tn at HC HW ⊢
  go_enter Tryz.func54, Tryz.ntmps54
  go_wp2_with fail
  refine (within_any _ _ _ _).mono ?_
  rw [HB1.out]
  rintro en w1 ⟨rfl, rfl⟩
  cases b1 with
  | false =>
    have HR1 := hide_ (show q3 = false from HR.out)
    go_wp2
    go_ret
    exact ⟨ret_boolT HR1.out.symm, HW.out⟩
  | true =>
  go_wp2_with fail
  refine (within_any _ _ _ _).mono ?_
  rw [HB2.out]
  rintro en w1 ⟨rfl, rfl⟩
  cases b2 with
  | false =>
    have HR1 := hide_ (show q3 = false from HR.out)
    go_wp2
    go_ret
    exact ⟨ret_boolT HR1.out.symm, HW.out⟩
  | true =>
  have HR1 := hide_ (show q3 = !q from HR.out.trans HN.out.symm)
  have HC1 := hide_ (HC.out HB1.out HB2.out)
  clear HC HR HN
  go_wp2_with fail
  refine HC1.out.mono ?_
  rintro en w1 ⟨rfl, hb⟩
  have HB3 := hide_ hb
  clear hb
  go_wp2
  go_ret
  exact ⟨ret_boolT HR1.out.symm, HW.out.trans HB3.out⟩
end Go.Proofs.YtkgnondlcaklnaaGreat

/-
  Contracts of table's taken and Find.
-/
namespace Go.Proofs.YtkgnondlcaklnaaGreat
open Go.RowKit

theorem mayFire_any (st vs : Int) (t : Sl RuM) (B : Nat) (w : World) (vars : List Int) (V : Option Addr) (m k : Nat) (hm : vars.length = m) (hs : rusOk w B t) (hB : B ≤ w.heap.size) :
    Calls Tryz.prog 139 #[tabV st vs t, .slice V m k] w fun e w' => e = .returned (.bool (fireB st vs t.l vars)) ∧ Below w.heap.size w w' := by
  have hw1 : Below w.heap.size w (w.alloc (.cells #[.int .i64 st, .int .i64 vs, .slice t.A t.l.length t.c] 24)) := (Below.refl _ _).alloc (Nat.le_refl _) _
  have HC := hide_ (MayT_any st vs t B _ (rus_stable.below hs (hw1.mono hB)) (Nat.le_trans hB hw1.size))
  have HR := hide_ (show fireB st vs t.l vars = (decide ((m : Int) = vs) && mayT st vs t.l) by unfold fireB; rw [hm])
  have HW := hide_ hw1
  clear hs hB hw1 hm
  generalize mayT st vs t.l = q at HC HR
  generalize fireB st vs t.l vars = q2 at HR ⊢
  obtain ⟨tA, tc, tl⟩ := t
  simp only [tabV, Sl.v] at HC HW ⊢
  generalize tl.length = tn at HC HW ⊢
  by_cases h : (m : Int) = vs
  · have HR1 := hide_ (show q2 = q by rw [HR.out, decide_eq_true h]; rfl)
    subst h
    clear HR
    go_enter Tryz.func139, Tryz.ntmps139
    go_wp2_with fail
    refine HC.out.mono ?_
    rintro en w1 ⟨rfl, hb⟩
    have HB := hide_ hb
    clear hb
    go_wp2
    go_ret
    exact ⟨ret_boolT HR1.out.symm, HW.out.trans (HB.out.mono (by simp))⟩
  · have HR1 := hide_ (show q2 = false by rw [HR.out, decide_eq_false h]; rfl)
    have hd : ((m : Int) == vs) = false := beq_eq_false_iff_ne.2 h
    clear HR h
    go_enter Tryz.func139, Tryz.ntmps139
    go_wp2
    go_ret
    exact ⟨ret_boolT HR1.out.symm, HW.out⟩

/-- what taken keeps while it goes through rules -/
def TakI (sa ac pa : Int) (V : Option Addr) (m k : Nat) (arg : Int) (z : Nat) (w : World) : Prop :=
  w.cell? ⟨z, 0, none⟩ = some (.int .i64 sa) ∧ w.cell? ⟨z + 1, 0, none⟩ = some (.int .i64 ac) ∧ w.cell? ⟨z + 2, 0, none⟩ = some (.int .i64 pa) ∧ w.cell? ⟨z + 3, 0, none⟩ = some (.slice V m k) ∧ w.cell? ⟨z + 4, 0, none⟩ = some (.int .i64 arg) ∧ z + 4 < w.heap.size
theorem TakI.below {sa ac pa : Int} {V : Option Addr} {m k : Nat} {arg : Int} {z : Nat} {w w' : World} (h : TakI sa ac pa V m k arg z w) (hb : Below w.heap.size w w') : TakI sa ac pa V m k arg z w' := by
  obtain ⟨h1, h2, h3, h4, h5, b1⟩ := h
  have hz := hb.size
  exact ⟨(hb.cell (p := ⟨z, 0, none⟩) (by simp; omega)).trans h1, (hb.cell (p := ⟨z + 1, 0, none⟩) (by simp; omega)).trans h2, (hb.cell (p := ⟨z + 2, 0, none⟩) (by simp; omega)).trans h3, (hb.cell (p := ⟨z + 3, 0, none⟩) (by simp; omega)).trans h4, (hb.cell (p := ⟨z + 4, 0, none⟩) (by simp; omega)).trans h5, by omega⟩
theorem takX_at {sa ac pa : Int} {vars : List Int} {arg : Int} {l : List RuM} {k : Nat} {x : RuM} (h : l[k]? = some x) : takX sa ac pa vars arg l k = isFor sa ac pa vars arg x := by unfold takX; rw [h]

set_option maxRecDepth 100000 in
theorem oneTak_any (l : List RuM) (sa ac pa : Int) (vars : List Int) (V : Option Addr) (m k : Nat) (arg : Int) (z : Nat) (B j : Nat) (x : RuM) (w : World) (hx : l[j]? = some x) (hm : vars.length = m) (hs : RuM.ok w B x) (hsv : Sees w B V (iv vars)) (hvi : ∀ v ∈ vars, I64 v) (ha : I64 arg)
    (hB : B ≤ w.heap.size) (hI : TakI sa ac pa V m k arg z w) :
    Calls Tryz.prog 194 #[x.v, .pointer (some ⟨z, 0, none⟩), .pointer (some ⟨z + 1, 0, none⟩), .pointer (some ⟨z + 2, 0, none⟩), .pointer (some ⟨z + 3, 0, none⟩), .pointer (some ⟨z + 4, 0, none⟩)] w (Ans B w (takX sa ac pa vars arg l j) (TakI sa ac pa V m k arg z)) := by
  have HI := hide_ hI
  obtain ⟨i1, i2, i3, i4, i5, i6⟩ := hI
  have z0 : z < w.heap.size := by omega
  have z1 : z + 1 < w.heap.size := by omega
  have z2 : z + 2 < w.heap.size := by omega
  have z3 : z + 3 < w.heap.size := by omega
  obtain ⟨fr, xc, xp, tt, ⟨gA, gc, gl⟩, ⟨sA, sc, sl⟩, ⟨eA, ec, el⟩⟩ := x
  obtain ⟨q, hq⟩ : ∃ q, holdsB gl vars arg = q := ⟨_, rfl⟩
  have HR := hide_ (show takX sa ac pa vars arg l j = (decide (fr = sa) && (decide (xc = ac) && (decide (xp = pa) && q))) by rw [takX_at hx]; unfold isFor; rw [hq])
  obtain ⟨gn, hgn⟩ : ∃ n, gl.length = n := ⟨_, rfl⟩
  obtain ⟨sn, hsn⟩ : ∃ n, sl.length = n := ⟨_, rfl⟩
  obtain ⟨ee, hen⟩ : ∃ n, el.length = n := ⟨_, rfl⟩
  have hw1 := (Below.refl B w).alloc hB (.cells #[.int .i64 fr, .int .i64 xc, .int .i64 xp, .int .i64 tt, .slice gA gn gc, .slice sA sn sc, .slice eA ee ec] 103)
  have HW := hide_ hw1
  have HI1 := hide_ (HI.out.below ((Below.refl _ _).alloc (Nat.le_refl _) (.cells #[.int .i64 fr, .int .i64 xc, .int .i64 xp, .int .i64 tt, .slice gA gn gc, .slice sA sn sc, .slice eA ee ec] 103)))
  obtain ⟨-, hg, -, -⟩ := hs
  simp only at hg
  have hg1 := toks_stable.below hg hw1
  have HC := hide_ (Holds_any gl vars arg B gA V gn gc m k _ hgn (hgn ▸ toks_n63 hg) hm hg1.2.2.1 (hsv.below hw1) (by simp; omega) hg1.2.2.2 hvi ha)
  rw [hq] at HC
  simp only [RuM.v, Sl.v, hgn, hsn, hen] at HC ⊢
  generalize takX sa ac pa vars arg l j = R at HR ⊢
  clear hw1 hg hg1 hsv hgn hsn hen hq hm hvi ha hx
  by_cases e1 : fr = sa
  · subst e1
    by_cases e2 : xc = ac
    · subst e2
      by_cases e3 : xp = pa
      · subst e3
        have HR1 := hide_ (show R = q by rw [HR.out]; simp)
        clear HR
        go_enter Tryz.func194, Tryz.ntmps194
        go_wp2_with fail
        refine HC.out.mono ?_
        rintro en w1 ⟨rfl, hb⟩
        have HB := hide_ hb
        clear hb
        go_wp2
        go_ret
        exact ⟨ret_boolT HR1.out.symm, (fun _ => HI1.out.below HB.out), HW.out.trans (HB.out.mono (by simp; omega))⟩
      · have HR1 := hide_ (show R = false by rw [HR.out, decide_eq_false e3]; simp)
        have hd : (xp == pa) = false := beq_eq_false_iff_ne.2 e3
        clear HR e3 HC
        go_enter Tryz.func194, Tryz.ntmps194
        go_wp2
        go_ret
        exact ⟨ret_boolT HR1.out.symm, (fun _ => HI1.out), HW.out⟩
    · have HR1 := hide_ (show R = false by rw [HR.out, decide_eq_false e2]; simp)
      have hd : (xc == ac) = false := beq_eq_false_iff_ne.2 e2
      clear HR e2 HC
      go_enter Tryz.func194, Tryz.ntmps194
      go_wp2
      go_ret
      exact ⟨ret_boolT HR1.out.symm, (fun _ => HI1.out), HW.out⟩
  · have HR1 := hide_ (show R = false by rw [HR.out, decide_eq_false e1]; simp)
    have hd : (fr == sa) = false := beq_eq_false_iff_ne.2 e1
    clear HR e1 HC
    go_enter Tryz.func194, Tryz.ntmps194
    go_wp2
    go_ret
    exact ⟨ret_boolT HR1.out.symm, (fun _ => HI1.out), HW.out⟩

/-- the world behind five boxes -/
def box5 (w : World) (sa ac pa : Int) (V : Option Addr) (m k : Nat) (arg : Int) : World :=
  ((((w.alloc (.cells #[.int .i64 sa] 3)).alloc (.cells #[.int .i64 ac] 3)).alloc (.cells #[.int .i64 pa] 3)).alloc (.cells #[.slice V m k] 26)).alloc (.cells #[.int .i64 arg] 2)

theorem taken_any (t : Sl RuM) (sa ac pa : Int) (vars : List Int) (V : Option Addr) (m k : Nat) (arg : Int) (B : Nat) (w : World) (hm : vars.length = m) (hs : rusOk w B t) (hsv : Sees w B V (iv vars)) (hvi : ∀ v ∈ vars, I64 v) (ha : I64 arg) (hB : B ≤ w.heap.size) :
    Calls Tryz.prog 140 #[t.v, .int .i64 sa, .int .i64 ac, .int .i64 pa, .slice V m k, .int .i64 arg] w fun e w' => e = .returned (.int .i64 (takI sa ac pa vars arg t.l)) ∧ Below w.heap.size w w' := by
  have hw1 : Below w.heap.size w (box5 w sa ac pa V m k arg) := (((((Below.refl _ _).alloc (Nat.le_refl _) _).alloc (by simp) _).alloc (by simp; omega) _).alloc (by simp; omega) _).alloc (by simp; omega) _
  have hI0 : TakI sa ac pa V m k arg w.heap.size (box5 w sa ac pa V m k arg) := by
    unfold box5
    refine ⟨?_, ?_, ?_, ?_, ?_, by simp⟩
    · rw [World.cell?_alloc_past _ _ _ (by simp; omega), World.cell?_alloc_past _ _ _ (by simp; omega), World.cell?_alloc_past _ _ _ (by simp; omega), World.cell?_alloc_past _ _ _ (by simp), World.cell?_alloc_at _ _ _ _ rfl]; rfl
    · rw [World.cell?_alloc_past _ _ _ (by simp), World.cell?_alloc_past _ _ _ (by simp), World.cell?_alloc_past _ _ _ (by simp), World.cell?_alloc_at _ _ _ _ (by simp)]; rfl
    · rw [World.cell?_alloc_past _ _ _ (by simp), World.cell?_alloc_past _ _ _ (by simp), World.cell?_alloc_at _ _ _ _ (by simp)]; rfl
    · rw [World.cell?_alloc_past _ _ _ (by simp), World.cell?_alloc_at _ _ _ _ (by simp)]; rfl
    · rw [World.cell?_alloc_at _ _ _ _ (by simp)]; rfl
  have HC := hide_ (indexRule_any (takX sa ac pa vars arg t.l) (fun _ => TakI sa ac pa V m k arg w.heap.size) 194 #[.pointer (some ⟨w.heap.size, 0, none⟩), .pointer (some ⟨w.heap.size + 1, 0, none⟩), .pointer (some ⟨w.heap.size + 2, 0, none⟩), .pointer (some ⟨w.heap.size + 3, 0, none⟩), .pointer (some ⟨w.heap.size + 4, 0, none⟩)] t w.heap.size _
    (rus_stable.below (rus_stable.more hs hB) hw1) hw1.size hI0 ent_tak (fun j x wr hx hb hI => by
      rw [app5]
      exact oneTak_any t.l sa ac pa vars V m k arg _ w.heap.size j x wr hx hm (ru_stable.below (ru_stable.more (hs.2.2.2 x (List.mem_of_getElem? hx)) hB) (hw1.trans hb)) ((hsv.more hB).below (hw1.trans hb)) hvi ha (Nat.le_trans hw1.size hb.size) hI))
  have HR := hide_ (show idxI (takX sa ac pa vars arg t.l) t.l.length = takI sa ac pa vars arg t.l from rfl)
  have HW := hide_ hw1
  clear hs hB hw1 hI0 hm hsv hvi ha
  generalize idxI (takX sa ac pa vars arg t.l) t.l.length = q at HC HR
  generalize t.v = tv at HC ⊢
  unfold box5 at HC HW
  go_enter Tryz.func140, Tryz.ntmps140
  go_wp2_with fail
  refine HC.out.mono ?_
  rintro en w1 ⟨rfl, hb⟩
  have HB := hide_ hb
  clear hb
  go_wp2
  go_ret
  exact ⟨ret_i64T HR.out, HW.out.trans HB.out⟩

end Go.Proofs.YtkgnondlcaklnaaGreat