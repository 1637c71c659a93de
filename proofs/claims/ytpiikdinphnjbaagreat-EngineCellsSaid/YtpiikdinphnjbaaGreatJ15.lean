/-
  Texts of this claim put together: MayT.
-/
import Derived.Test.YtpiikdinphnjbaaGreatJ09
import Derived.Test.YtpiikdinphnjbaaGreatJ11
import Derived.Shelf.Abstract
/-
  Contracts of table's functions that tell which contracts may be.
-/
namespace Go.Proofs.YtpiikdinphnjbaaGreat
open Go.RowKit

theorem within_any (n a b : Int) (w : World) : Calls Tryz.prog 57 #[.int .i64 n, .int .i64 a, .int .i64 b] w fun e w' => e = .returned (.bool (inB n a b)) ∧ w = w' := by
  by_cases h : a ≤ n
  · by_cases h2 : n ≤ b
    · have HR := hide_ (inB_true.2 ⟨h, h2⟩)
      have hd := decide_eq_true h
      have hd2 := decide_eq_true h2
      go_enter Tryz.func57, Tryz.ntmps57
      go_wp2
      go_ret
      exact ⟨ret_boolT HR.out.symm, rfl⟩
    · have HR := hide_ (inB_false.2 (.inr (by omega)) : inB n a b = false)
      have hd := decide_eq_true h
      have hd2 := decide_eq_false h2
      go_enter Tryz.func57, Tryz.ntmps57
      go_wp2
      go_ret
      exact ⟨ret_boolT HR.out.symm, rfl⟩
  · have HR := hide_ (inB_false.2 (.inl (by omega)) : inB n a b = false)
    have hd := decide_eq_false h
    go_enter Tryz.func57, Tryz.ntmps57
    go_wp2
    go_ret
    exact ⟨ret_boolT HR.out.symm, rfl⟩

theorem mayAction_any (n : Int) (w : World) : Calls Tryz.prog 86 #[.int .i64 n] w fun e w' => e = .returned (.bool (inB n 0 31)) ∧ w = w' := by
  go_enter Tryz.func86, Tryz.ntmps86
  go_wp2_with fail
  refine (within_any _ _ _ _).mono ?_
  rintro en w1 ⟨rfl, rfl⟩
  go_wp2
  go_ret
  exact ⟨rfl, rfl⟩

theorem toks_n63 {w : World} {B : Nat} {s : TokS} (h : toksOk w B s) : s.l.length ≤ maxLen := Nat.le_trans h.1 h.2.1

theorem mayNot_any (s : TokS) (n : Nat) (hn : s.l.length = n) (bt : Nat) (vs : Int) (B : Nat) (w : World) (hs : toksOk w B s) (hB : B ≤ w.heap.size) (hv : w.cell? ⟨bt, 1, none⟩ = some (.int .i64 vs)) :
    Calls Tryz.prog 84 #[.slice s.A n s.c, .pointer (some ⟨bt, 0, none⟩)] w fun e w' => e = .returned (.bool (!(mayB s.l vs))) ∧ Below w.heap.size w w' := by
  obtain ⟨q, hq⟩ : ∃ q, mayB s.l vs = q := ⟨_, rfl⟩
  subst hn
  have HC := hide_ (May_any s.l B s.A s.l.length s.c vs w rfl (toks_n63 hs) hs.2.2.1 hB)
  rw [hq] at HC
  rw [hq]
  clear hq hs hB
  generalize s.l.length = n at HC ⊢
  go_enter Tryz.func84, Tryz.ntmps84
  go_wp2_with fail
  refine HC.out.mono ?_
  rintro en w1 ⟨rfl, hb⟩
  go_wp2
  go_ret
  exact ⟨rfl, hb⟩

/-- the function that tells which formulas may not be -/
def mayNotV (bt : Nat) : Value := .func (.func 84) #[] #[.pointer (some ⟨bt, 0, none⟩)]

/-- what maySets keeps while it goes through Sets -/
def SetsI (l : List SetM) (vs : Int) (bt bl bv bn : Nat) (k : Nat) (w : World) : Prop :=
  w.cell? ⟨bl, 0, none⟩ = some (.int .i64 (leastB l k)) ∧ w.frozen? ⟨bl, 0, none⟩ = false ∧ w.cell? ⟨bv, 0, none⟩ = some (.int .i64 vs) ∧ w.cell? ⟨bn, 0, none⟩ = some (mayNotV bt) ∧ w.cell? ⟨bt, 1, none⟩ = some (.int .i64 vs) ∧
    (bl < w.heap.size ∧ bv < w.heap.size ∧ bn < w.heap.size ∧ bt < w.heap.size)

theorem SetsI.below {l : List SetM} {vs : Int} {bt bl bv bn k : Nat} {w w' : World} (h : SetsI l vs bt bl bv bn k w) (hb : Below w.heap.size w w') : SetsI l vs bt bl bv bn k w' := by
  obtain ⟨h1, h2, h3, h4, h5, b1, b2, b3, b4⟩ := h
  have hz := hb.size
  exact ⟨(hb.cell (p := ⟨bl, 0, none⟩) b1).trans h1, (hb.frozen (p := ⟨bl, 0, none⟩) b1).trans h2, (hb.cell (p := ⟨bv, 0, none⟩) b2).trans h3, (hb.cell (p := ⟨bn, 0, none⟩) b3).trans h4, (hb.cell (p := ⟨bt, 1, none⟩) b4).trans h5, by omega, by omega, by omega, by omega⟩

theorem setX_at {vs : Int} {l : List SetM} {k : Nat} {x : SetM} (h : l[k]? = some x) : setX vs l k = (!(inB x.var (leastB l k) (vs - 1)) || !(mayB x.val.l vs)) := by unfold setX; rw [h]
theorem leastB_succ {l : List SetM} {k : Nat} {x : SetM} (h : l[k]? = some x) : leastB l (k + 1) = x.var + 1 := by show (match l[k]? with | some s => s.var + 1 | none => 0) = _; rw [h]

theorem SetsI.step {l : List SetM} {vs : Int} {bt bl bv bn k : Nat} {w : World} {z : Int} (h : SetsI l vs bt bl bv bn k w) (hz : leastB l (k + 1) = z) (hne : bl ≠ bv ∧ bl ≠ bn ∧ bl ≠ bt) : SetsI l vs bt bl bv bn (k + 1) (w.setCell ⟨bl, 0, none⟩ (.int .i64 z)) := by
  obtain ⟨h1, h2, h3, h4, h5, b1, b2, b3, b4⟩ := h
  refine ⟨?_, by rw [World.frozen?_setCell]; exact h2, ?_, ?_, ?_, by simpa [World.setCell] using b1, by simpa [World.setCell] using b2, by simpa [World.setCell] using b3, by simpa [World.setCell] using b4⟩
  · rw [hz]; exact World.cell?_setCell_same _ _ _ h1
  · rw [World.cell?_setCell_other _ _ _ _ (fun e => by injection e with e; omega)]; exact h3
  · rw [World.cell?_setCell_other _ _ _ _ (fun e => by injection e with e; omega)]; exact h4
  · rw [World.cell?_setCell_other _ _ _ _ (fun e => by injection e with e; omega)]; exact h5

set_option maxRecDepth 100000 in
theorem oneSet_any (l : List SetM) (vs : Int) (bt bl bv bn : Nat) (B k : Nat) (x : SetM) (w : World) (hx : l[k]? = some x) (hv : 0 ≤ vs ∧ vs ≤ 8) (hs : SetM.ok w B x) (hB : B ≤ w.heap.size) (hI : SetsI l vs bt bl bv bn k w) (hbl : B ≤ bl) (hne : bl ≠ bv ∧ bl ≠ bn ∧ bl ≠ bt) :
    Calls Tryz.prog 121 #[x.v, .pointer (some ⟨bl, 0, none⟩), .pointer (some ⟨bv, 0, none⟩), .pointer (some ⟨bn, 0, none⟩)] w (Ans B w (setX vs l k) (SetsI l vs bt bl bv bn (k + 1))) := by
  obtain ⟨var, val⟩ := x
  have HX := hide_ (setX_at (vs := vs) hx)
  have HL := hide_ (leastB_succ hx)
  have HI := hide_ hI
  obtain ⟨h1, h2, h3, h4, h5, b1, b2, b3, b4⟩ := hI
  have HNE := hide_ hne
  obtain ⟨hv1, hv2⟩ := hv
  obtain ⟨n1, n2, n3⟩ := hne
  have HV := hide_ hs.2
  have hi : I64 var := hs.1
  unfold I64 at hi
  obtain ⟨i1, i2⟩ := hi
  generalize leastB l k = lea at h1 HX
  clear hx hs
  obtain ⟨vA, vc, vl⟩ := val
  obtain ⟨vn, hnn⟩ : ∃ vn, vl.length = vn := ⟨_, rfl⟩
  simp only [SetM.v, Sl.v, mayNotV, hnn] at h4 HX HV ⊢
  cases hq : inB var lea (vs - 1) with
  | false =>
    have HR := hide_ (show setX vs l k = true by rw [HX.out, hq]; rfl)
    have HQ := hide_ hq
    clear hq
    go_enter Tryz.func121, Tryz.ntmps121
    go_wp2_with fail
    refine (within_any _ _ _ _).mono ?_
    rw [HQ.out]
    rintro en w1 ⟨rfl, rfl⟩
    go_wp2
    go_ret
    exact ⟨ret_boolT HR.out.symm, (fun h => by rw [HR.out] at h; cases h), (Below.refl _ _).alloc hB _⟩
  | true =>
    have hq2 := inB_true.1 hq
    have HQ := hide_ hq
    clear hq
    have hvar : var ≤ 7 := by omega
    have hvar0 : -9223372036854775807 ≤ var + 1 := by omega
    obtain ⟨m, hm⟩ : ∃ m, mayB vl vs = m := ⟨_, rfl⟩
    have HR := hide_ (show setX vs l k = !m by rw [HX.out, HQ.out, hm]; rfl)
    have HM := hide_ hm
    have HN := hide_ hnn
    clear hm hnn hq2
    go_enter Tryz.func121, Tryz.ntmps121
    go_wp2_with fail
    refine (within_any _ _ _ _).mono ?_
    rw [HQ.out]
    rintro en w1 ⟨rfl, rfl⟩
    go_wp2_with fail
    have hsz : ((w.setCell ⟨bl, 0, none⟩ (.int .i64 (var + 1))).heap.size) = w.heap.size := by simp [World.setCell]
    have HB := hide_ (show Below B w ((w.setCell ⟨bl, 0, none⟩ (.int .i64 (var + 1))).alloc (.cells #[.int .i64 var, .slice vA vn vc] 77)) from ((Below.refl B w).setCell hbl _).alloc (by rw [hsz]; exact hB) _)
    have HI1 := hide_ ((HI.out.step HL.out HNE.out).below ((Below.refl _ _).alloc (Nat.le_refl _) (.cells #[.int .i64 var, .slice vA vn vc] 77)))
    refine (mayNot_any ⟨vA, vc, vl⟩ vn HN.out bt vs B _ (toks_stable.below HV.out HB.out) (by simp; omega) HI1.out.2.2.2.2.1).mono ?_
    rw [HM.out]
    rintro en w2 ⟨rfl, hb2⟩
    have HB2 := hide_ hb2
    clear hb2
    go_wp2
    go_ret
    exact ⟨ret_boolT HR.out.symm, (fun _ => HI1.out.below HB2.out), HB.out.trans (HB2.out.mono (by simp; omega))⟩

theorem not_long (m n : Nat) (b : Bool) : (!(decide ((m : Int) < n) || b)) = (decide (n ≤ m) && !b) := by
  by_cases h : n ≤ m
  · rw [decide_eq_false (by omega), decide_eq_true h]; simp
  · rw [decide_eq_true (by omega), decide_eq_false h]; simp
theorem app1 (a b : Value) : #[a] ++ #[b] = #[a, b] := rfl
theorem app3 (a b c d : Value) : #[a] ++ #[b, c, d] = #[a, b, c, d] := rfl
theorem app5 (a b c d e f : Value) : #[a] ++ #[b, c, d, e, f] = #[a, b, c, d, e, f] := rfl
theorem ent_set : Enters Tryz.prog 121 := enters_of Tryz.func121 (by kernel_rfl) rfl
theorem ent_em : Enters Tryz.prog 123 := enters_of Tryz.func123 (by kernel_rfl) rfl
theorem ent_ru : Enters Tryz.prog 59 := enters_of Tryz.func59 (by kernel_rfl) rfl
theorem ent_tak : Enters Tryz.prog 124 := enters_of Tryz.func124 (by kernel_rfl) rfl

theorem maySets_any (s : Sl SetM) (vs : Int) (bt : Nat) (B : Nat) (w : World) (hv : 0 ≤ vs ∧ vs ≤ 8) (hs : setsOk w B s) (hB : B ≤ w.heap.size) (hbt : w.cell? ⟨bt, 1, none⟩ = some (.int .i64 vs)) (hlt : bt < w.heap.size) :
    Calls Tryz.prog 87 #[s.v, .int .i64 vs, mayNotV bt] w fun e w' => e = .returned (.bool (setsB vs s.l)) ∧ Below w.heap.size w w' := by
  have hb3 : Below w.heap.size w (((w.alloc (.cells #[.int .i64 vs] 3)).alloc (.cells #[mayNotV bt] 130)).alloc (.cells #[.int .i64 0] 3)) :=
    (((Below.refl _ _).alloc (Nat.le_refl _) _).alloc (by simp) _).alloc (by simp; omega) _
  have hI0 : SetsI s.l vs bt (w.heap.size + 1 + 1) w.heap.size (w.heap.size + 1) 0 (((w.alloc (.cells #[.int .i64 vs] 3)).alloc (.cells #[mayNotV bt] 130)).alloc (.cells #[.int .i64 0] 3)) := by
    refine ⟨?_, ?_, ?_, ?_, ?_, by simp, by simp; omega, by simp, by simp; omega⟩
    · rw [World.cell?_alloc_at _ _ _ _ (by simp)]; rfl
    · rw [World.frozen?_alloc_at _ _ _ _ (by simp)]
    · rw [World.cell?_alloc_past _ _ _ (by simp; omega), World.cell?_alloc_past _ _ _ (by simp), World.cell?_alloc_at _ _ _ _ rfl]; rfl
    · rw [World.cell?_alloc_past _ _ _ (by simp), World.cell?_alloc_at _ _ _ _ (by simp)]; rfl
    · rw [World.cell?_alloc_past _ _ _ (by simp; omega), World.cell?_alloc_past _ _ _ (by simp; omega), World.cell?_alloc_past _ _ _ hlt]; exact hbt
  have hz := hs.1
  have HC := hide_ (faultySet_any (setX vs s.l) (SetsI s.l vs bt (w.heap.size + 1 + 1) w.heap.size (w.heap.size + 1)) 121 #[.pointer (some ⟨w.heap.size + 1 + 1, 0, none⟩), .pointer (some ⟨w.heap.size, 0, none⟩), .pointer (some ⟨w.heap.size + 1, 0, none⟩)] s 8 w.heap.size _
    (sets_stable.below (sets_stable.more hs hB) hb3) hb3.size hI0 ent_set (fun k x wr hx hb hI => by
      rw [app3]
      exact oneSet_any s.l vs bt _ _ _ w.heap.size k x wr hx hv (set_stable.below (set_stable.more (hs.2.2.2 x (List.mem_of_getElem? hx)) hB) (hb3.trans hb)) (Nat.le_trans hb3.size hb.size) hI (by omega) ⟨by omega, by omega, by omega⟩))
  have HR := hide_ (show (!(decide ((8 : Int) < s.l.length) || anyB (setX vs s.l) s.l.length)) = setsB vs s.l from not_long 8 _ _)
  have HB3 := hide_ hb3
  clear hs hB hbt hI0 hb3 hz
  generalize (decide ((8 : Int) < s.l.length) || anyB (setX vs s.l) s.l.length) = q at HC HR
  generalize s.v = sv at HC
  simp only [mayNotV] at HC HB3 ⊢
  go_enter Tryz.func87, Tryz.ntmps87
  go_wp2_with fail
  refine HC.out.mono ?_
  rintro en w1 ⟨rfl, hb⟩
  go_wp2
  go_ret
  exact ⟨ret_boolT HR.out, HB3.out.trans hb⟩
end Go.Proofs.YtpiikdinphnjbaaGreat
