/-
  Texts of this claim put together: EqDone, EqCell, EqMark, SameG, Tk5b, Tk5c.
-/
import Derived.Test.YtnkjdijbfnmnhaaGreatJ34
import Derived.Test.YtnkjdijbfnmnhaaGreatShort
import Derived.Test.YtnkjdijbfnmnhaaGreatJ32
import Derived.Test.YtnkjdijbfnmnhaaGreatJ16
import Derived.Deep.RegionHeld
import Derived.IntWalk
import Derived.Deep.RegionHeldLaw
import Derived.Deep.DeepCutAuto
/-
  Contracts of SameReply, sameDone, EqualFunc at entries.
-/
namespace Go.Proofs.YtnkjdijbfnmnhaaGreat
open Go.RowKit

set_option maxRecDepth 100000 in
set_option maxHeartbeats 1600000 in
theorem sameRep_any (x y : RepM) (B : Nat) (w : World) (hx : RepM.ok w B x) (hy : RepM.ok w B y) (hB : B ≤ w.heap.size) :
    Calls Tryz.prog 259 #[x.v, y.v] w fun e w' => e = .returned (.bool (decide (x.p = y.p))) ∧ Below w.heap.size w w' := by
  obtain ⟨er, inc, st, ⟨A, c, va⟩⟩ := x
  obtain ⟨er2, inc2, st2, ⟨A2, c2, va2⟩⟩ := y
  have h1 := hx.2
  have h2 := hy.2
  obtain ⟨n, hn⟩ : ∃ n, va.length = n := ⟨_, rfl⟩
  obtain ⟨n2, hn2⟩ : ∃ n, va2.length = n := ⟨_, rfl⟩
  have hm : n ≤ 9223372036854775807 := by have h3 := h1.1; have h4 := h1.2.1; unfold maxLen at h4; simp only at h3 h4; omega
  have hm2 : n2 ≤ 9223372036854775807 := by have h3 := h2.1; have h4 := h2.2.1; unfold maxLen at h4; simp only at h3 h4; omega
  have HC := hide_ (fun (u : World) (hb : Below w.heap.size w u) => equalInt_any va va2 A A2 n n2 c c2 B u hn hn2 hm hm2 (h1.2.2.1.below (hb.mono hB)) (h2.2.2.1.below (hb.mono hB)) (Nat.le_trans hB hb.size))
  simp only [RepM.v, Sl.v, RepM.p, hn, hn2]
  have HW := hide_ (((Below.refl w.heap.size w).alloc (Nat.le_refl _) (.cells #[.int .i64 er, .int .u64 inc, .int .i64 st, .slice A n c] 38)).alloc (by simp) (.cells #[.int .i64 er2, .int .u64 inc2, .int .i64 st2, .slice A2 n2 c2] 38))
  clear hx hy h1 h2 hn hn2
  by_cases q1 : er = er2
  case neg =>
    have HD := hide_ (show decide ((er, inc, st, va) = (er2, inc2, st2, va2)) = false by rw [decide_eq_false_iff_not]; intro e; simp only [Prod.mk.injEq] at e; exact q1 e.1)
    have hd : (er == er2) = false := beq_eq_false_iff_ne.2 q1
    clear q1
    go_enter Tryz.func259, Tryz.ntmps259
    go_wp2
    go_ret
    exact ⟨ret_boolT HD.out.symm, HW.out⟩
  subst q1
  by_cases q2 : inc = inc2
  case neg =>
    have HD := hide_ (show decide ((er, inc, st, va) = (er, inc2, st2, va2)) = false by rw [decide_eq_false_iff_not]; intro e; simp only [Prod.mk.injEq] at e; exact q2 e.2.1)
    have hd : (inc == inc2) = false := beq_eq_false_iff_ne.2 q2
    clear q2
    go_enter Tryz.func259, Tryz.ntmps259
    go_wp2
    go_ret
    exact ⟨ret_boolT HD.out.symm, HW.out⟩
  subst q2
  by_cases q3 : st = st2
  case neg =>
    have HD := hide_ (show decide ((er, inc, st, va) = (er, inc, st2, va2)) = false by rw [decide_eq_false_iff_not]; intro e; simp only [Prod.mk.injEq] at e; exact q3 e.2.2.1)
    have hd : (st == st2) = false := beq_eq_false_iff_ne.2 q3
    clear q3
    go_enter Tryz.func259, Tryz.ntmps259
    go_wp2
    go_ret
    exact ⟨ret_boolT HD.out.symm, HW.out⟩
  subst q3
  have HD := hide_ (show decide ((er, inc, st, va) = (er, inc, st, va2)) = decide (va = va2) by simp)
  go_enter Tryz.func259, Tryz.ntmps259
  go_wp2_with fail
  refine (HC.out _ HW.out).mono ?_
  rintro en w1 ⟨rfl, hb1⟩
  have HB1 := hide_ (HW.out.trans (hb1.mono (by simp; omega)))
  clear hb1
  go_wp2
  go_ret
  exact ⟨ret_boolT HD.out.symm, HB1.out⟩

set_option maxRecDepth 100000 in
set_option maxHeartbeats 1600000 in
theorem sameDone_any (x y : DoneM) (B : Nat) (w : World) (hx : DoneM.ok w B x) (hy : DoneM.ok w B y) (hB : B ≤ w.heap.size) :
    Calls Tryz.prog 197 #[x.v, y.v] w fun e w' => e = .returned (.bool (decide (x.p = y.p))) ∧ Below w.heap.size w w' := by
  obtain ⟨cl, sq, er, inc, st, ⟨A, c, va⟩⟩ := x
  obtain ⟨cl2, sq2, er2, inc2, st2, ⟨A2, c2, va2⟩⟩ := y
  have h1 := hx.2
  have h2 := hy.2
  have HC := hide_ (fun (u : World) (hb : Below w.heap.size w u) => sameRep_any ⟨er, inc, st, ⟨A, c, va⟩⟩ ⟨er2, inc2, st2, ⟨A2, c2, va2⟩⟩ B u ⟨hx.1.2.2, ints_stable.below h1 (hb.mono hB)⟩ ⟨hy.1.2.2, ints_stable.below h2 (hb.mono hB)⟩ (Nat.le_trans hB hb.size))
  obtain ⟨q, hq⟩ : ∃ q, decide ((RepM.mk er inc st ⟨A, c, va⟩).p = (RepM.mk er2 inc2 st2 ⟨A2, c2, va2⟩).p) = q := ⟨_, rfl⟩
  simp only [hq] at HC
  simp only [RepM.v, Sl.v] at HC
  simp only [DoneM.v, Sl.v]
  have HW := hide_ (((Below.refl w.heap.size w).alloc (Nat.le_refl _) (.cells #[.int .u8 cl, .int .u64 sq, .int .i64 er, .int .u64 inc, .int .i64 st, .slice A va.length c] 106)).alloc (by simp) (.cells #[.int .u8 cl2, .int .u64 sq2, .int .i64 er2, .int .u64 inc2, .int .i64 st2, .slice A2 va2.length c2] 106))
  have HQ := hide_ hq
  clear hx hy h1 h2 hq
  by_cases q1 : cl = cl2
  case neg =>
    have HD := hide_ (show decide ((DoneM.mk cl sq er inc st ⟨A, c, va⟩).p = (DoneM.mk cl2 sq2 er2 inc2 st2 ⟨A2, c2, va2⟩).p) = false by rw [decide_eq_false_iff_not]; intro e; simp only [DoneM.p, Prod.mk.injEq] at e; exact q1 e.1)
    have hd : (cl == cl2) = false := beq_eq_false_iff_ne.2 q1
    clear q1
    go_enter Tryz.func197, Tryz.ntmps197
    go_wp2
    go_ret
    exact ⟨ret_boolT HD.out.symm, HW.out⟩
  subst q1
  by_cases q2 : sq = sq2
  case neg =>
    have HD := hide_ (show decide ((DoneM.mk cl sq er inc st ⟨A, c, va⟩).p = (DoneM.mk cl sq2 er2 inc2 st2 ⟨A2, c2, va2⟩).p) = false by rw [decide_eq_false_iff_not]; intro e; simp only [DoneM.p, Prod.mk.injEq] at e; exact q2 e.2.1)
    have hd : (sq == sq2) = false := beq_eq_false_iff_ne.2 q2
    clear q2
    go_enter Tryz.func197, Tryz.ntmps197
    go_wp2
    go_ret
    exact ⟨ret_boolT HD.out.symm, HW.out⟩
  subst q2
  have HD := hide_ (show decide ((DoneM.mk cl sq er inc st ⟨A, c, va⟩).p = (DoneM.mk cl sq er2 inc2 st2 ⟨A2, c2, va2⟩).p) = q by rw [← HQ.out, Bool.eq_iff_iff, decide_eq_true_eq, decide_eq_true_eq]; simp only [DoneM.p, RepM.p, Prod.mk.injEq, true_and])
  clear HQ
  go_enter Tryz.func197, Tryz.ntmps197
  go_wp2_with fail
  refine (HC.out _ HW.out).mono ?_
  rintro en w1 ⟨rfl, hb1⟩
  have HB1 := hide_ (HW.out.trans (hb1.mono (by simp; omega)))
  clear hb1
  go_wp2
  go_ret
  exact ⟨ret_boolT HD.out.symm, HB1.out⟩

set_option maxRecDepth 100000 in
set_option maxHeartbeats 1600000 in
theorem equalDone_any (s1 s2 : Sl DoneM) (B : Nat) (w : World) (h1 : dnsOk w B s1) (h2 : dnsOk w B s2) (hB : B ≤ w.heap.size) :
    Calls Tryz.prog 196 #[s1.v, s2.v, .func (.func 197) #[] #[]] w fun e w' => e = .returned (.bool (decide (s1.l.map DoneM.p = s2.l.map DoneM.p))) ∧ Below w.heap.size w w' := by
  have HD1 := hide_ h1
  have HD2 := hide_ h2
  obtain ⟨A1, c1, l1⟩ := s1
  obtain ⟨A2, c2, l2⟩ := s2
  obtain ⟨n1, hn1⟩ : ∃ n, l1.length = n := ⟨_, rfl⟩
  obtain ⟨n2, hn2⟩ : ∃ n, l2.length = n := ⟨_, rfl⟩
  have hm : n1 ≤ 9223372036854775807 := by have h3 := h1.1; have h4 := h1.2.1; unfold maxLen at h4; simp only [hn1] at h3 h4; omega
  have hm2 : n2 ≤ 9223372036854775807 := by have h3 := h2.1; have h4 := h2.2.1; unfold maxLen at h4; simp only [hn2] at h3 h4; omega
  simp only [Sl.v, hn1, hn2]
  by_cases hne : n1 = n2
  case neg =>
    have HD := hide_ (show decide (l1.map DoneM.p = l2.map DoneM.p) = false by
      rw [decide_eq_false_iff_not]
      intro e
      have h := congrArg List.length e
      rw [List.length_map, List.length_map] at h
      exact hne (by rw [← hn1, ← hn2, h]))
    have hb : ((n1 : Int) != (n2 : Int)) = true := by simpa using (show ¬ (n1 : Int) = n2 by omega)
    clear hn1 hn2 h1 h2 hne
    go_enter Tryz.func196, Tryz.ntmps196
    go_wp2
    go_ret
    exact ⟨ret_boolT HD.out.symm, Below.refl _ _⟩
  subst hne
  have hb : ((n1 : Int) != (n1 : Int)) = false := by simp
  have HN1 := hide_ hn1
  have HN2 := hide_ hn2
  clear hn1 hn2 h1 h2
  go_enter Tryz.func196, Tryz.ntmps196
  go_wp2
  go_loopw [17] (fun i wr => ∃ k : Nat, k ≤ n1 ∧ i = .int .i64 k ∧ Hid (∀ j, j < k → (l1.map DoneM.p)[j]? = (l2.map DoneM.p)[j]?) ∧ Below w.heap.size w wr) (fun i _ => n1 - (intOf i).toNat)
  case atStart => exact ⟨0, Nat.zero_le _, rfl, (fun j hj => absurd hj (by omega)), Below.refl _ _⟩
  case round =>
    obtain ⟨k, hk, rfl, HJ, hb'⟩ := hrel
    have HBW := hide_ hb'
    have hzw : w.heap.size ≤ wr.heap.size := hb'.size
    by_cases hlt : k < n1
    case neg =>
      obtain rfl : k = n1 := by omega
      have HD := hide_ (show decide (l1.map DoneM.p = l2.map DoneM.p) = true by
        rw [decide_eq_true_eq]
        refine List.ext_getElem? fun j => ?_
        by_cases h : j < k
        · exact HJ.out j h
        · rw [List.getElem?_eq_none (by rw [List.length_map, HN1.out]; omega), List.getElem?_eq_none (by rw [List.length_map, HN2.out]; omega)])
      clear hb'
      go_wp2
      go_ret
      exact ⟨ret_boolT HD.out.symm, HBW.out⟩
    obtain ⟨x, hx⟩ : ∃ x, l1[k]? = some x := ⟨_, List.getElem?_eq_getElem (by rw [HN1.out]; exact hlt)⟩
    obtain ⟨y, hy⟩ : ∃ y, l2[k]? = some y := ⟨_, List.getElem?_eq_getElem (by rw [HN2.out]; exact hlt)⟩
    obtain ⟨tb, ot, hAe, hab, e0, e1, e2, e3, e4, e5⟩ := (HD1.out.2.2.1.below (hb'.mono hB)).done hx
    obtain ⟨ub, uo, hAe2, hab2, g0, g1, g2, g3, g4, g5⟩ := (HD2.out.2.2.1.below (hb'.mono hB)).done hy
    have hwz : tb < wr.heap.size := by omega
    have huz : ub < wr.heap.size := by omega
    have hxo := HD1.out.2.2.2 x (List.mem_of_getElem? hx)
    have hyo := HD2.out.2.2.2 y (List.mem_of_getElem? hy)
    have HCALL := hide_ (fun (u : World) (hb : Below w.heap.size w u) => sameDone_any x y B u (done_stable.below hxo (hb.mono hB)) (done_stable.below hyo (hb.mono hB)) (Nat.le_trans hB hb.size))
    have hpx : (l1.map DoneM.p)[k]? = some x.p := by rw [List.getElem?_map, hx]; rfl
    have hpy : (l2.map DoneM.p)[k]? = some y.p := by rw [List.getElem?_map, hy]; rfl
    have HPX := hide_ hpx
    have HPY := hide_ hpy
    obtain ⟨q, hq⟩ : ∃ q, decide (x.p = y.p) = q := ⟨_, rfl⟩
    simp only [hq] at HCALL
    have HQ := hide_ hq
    subst hAe hAe2
    clear hx hy hb' hxo hyo hpx hpy hq HD1 HD2
    obtain ⟨cl, sq, er, inc, st, ⟨A, c, va⟩⟩ := x
    obtain ⟨cl2, sq2, er2, inc2, st2, ⟨A2, c2', va2⟩⟩ := y
    simp only [DoneM.v, Sl.v] at e0 e1 e2 e3 e4 e5 g0 g1 g2 g3 g4 g5 HCALL
    have HWW := hide_ ((HBW.out.alloc hzw (.cells #[.int .u8 cl, .int .u64 sq, .int .i64 er, .int .u64 inc, .int .i64 st, .slice A va.length c] 106)).alloc (by simp; omega) (.cells #[.int .u8 cl2, .int .u64 sq2, .int .i64 er2, .int .u64 inc2, .int .i64 st2, .slice A2 va2.length c2'] 106))
    go_wp2_with fail
    refine (HCALL.out _ HWW.out).mono ?_
    rintro en w1 ⟨rfl, hb1⟩
    have HB1 := hide_ (HWW.out.trans (hb1.mono (by simp; omega)))
    clear hb1
    cases q with
    | false =>
      have HD := hide_ (show decide (l1.map DoneM.p = l2.map DoneM.p) = false by
        rw [decide_eq_false_iff_not]
        intro e
        have h := HPX.out
        rw [e, HPY.out] at h
        injection h with h
        exact of_decide_eq_false HQ.out h.symm)
      clear e0 e1 e2 e3 e4 e5 g0 g1 g2 g3 g4 g5
      go_wp2
      go_ret
      exact ⟨ret_boolT HD.out.symm, HB1.out⟩
    | true =>
      have HJ2 := hide_ (show ∀ j, j < k + 1 → (l1.map DoneM.p)[j]? = (l2.map DoneM.p)[j]? from fun j hj => by
        by_cases h : j = k
        · rw [h, HPX.out, HPY.out, of_decide_eq_true HQ.out]
        · exact HJ.out j (by omega))
      clear e0 e1 e2 e3 e4 e5 g0 g1 g2 g3 g4 g5
      go_wp2
      go_roundw
      case rel => exact ⟨k + 1, by omega, by go_num, HJ2, HB1.out⟩
      case measure => simp [intOf]; omega
end Go.Proofs.YtnkjdijbfnmnhaaGreat

/-
  Contract of slices.Equal at Cell.
-/
namespace Go.Proofs.YtnkjdijbfnmnhaaGreat
open Go.RowKit

set_option maxRecDepth 100000 in
set_option maxHeartbeats 3200000 in
theorem equalCell_any (l1 l2 : List (CelM)) (A1 A2 : Option Addr) (n1 n2 c1 c2 B : Nat) (w : World) (hn1 : l1.length = n1) (hn2 : l2.length = n2) (hm : n1 ≤ 9223372036854775807) (hm2 : n2 ≤ 9223372036854775807) (h1 : Sees w B A1 (l1.flatMap celC)) (h2 : Sees w B A2 (l2.flatMap celC)) (hB : B ≤ w.heap.size) :
    Calls Tryz.prog 198 #[.slice A1 n1 c1, .slice A2 n2 c2] w fun e w' => e = .returned (.bool (decide (l1 = l2))) ∧ Below w.heap.size w w' := by
  by_cases hne : n1 = n2
  case neg =>
    have HD := hide_ (show decide (l1 = l2) = false by rw [decide_eq_false_iff_not]; intro e; exact hne (by rw [← hn1, ← hn2, e]))
    have hb : ((n1 : Int) != (n2 : Int)) = true := by simpa using (show ¬ (n1 : Int) = n2 by omega)
    clear hn1 hn2 h1 h2 hne
    go_enter Tryz.func198, Tryz.ntmps198
    go_wp2
    go_ret
    exact ⟨ret_boolT HD.out.symm, Below.refl _ _⟩
  subst hne
  have hb : ((n1 : Int) != (n1 : Int)) = false := by simp
  have HN1 := hide_ hn1
  have HN2 := hide_ hn2
  have HS1 := hide_ h1
  have HS2 := hide_ h2
  clear hn1 hn2 h1 h2
  go_enter Tryz.func198, Tryz.ntmps198
  go_wp2
  go_loopw [13] (fun i wr => ∃ k : Nat, k ≤ n1 ∧ i = .int .i64 k ∧ Hid (∀ j, j < k → l1[j]? = l2[j]?) ∧ Below w.heap.size w wr) (fun i _ => n1 - (intOf i).toNat)
  case atStart => exact ⟨0, Nat.zero_le _, rfl, (fun j hj => absurd hj (by omega)), Below.refl _ _⟩
  case round =>
    obtain ⟨k, hk, rfl, HJ, hb'⟩ := hrel
    have HBW := hide_ hb'
    have hzw : w.heap.size ≤ wr.heap.size := hb'.size
    by_cases hlt : k < n1
    case neg =>
      obtain rfl : k = n1 := by omega
      have HD := hide_ (show decide (l1 = l2) = true by
        rw [decide_eq_true_eq]
        refine List.ext_getElem? fun j => ?_
        by_cases h : j < k
        · exact HJ.out j h
        · rw [List.getElem?_eq_none (by rw [HN1.out]; omega), List.getElem?_eq_none (by rw [HN2.out]; omega)])
      clear hb'
      go_wp2
      go_ret
      exact ⟨ret_boolT HD.out.symm, HBW.out⟩
    obtain ⟨x, hx⟩ : ∃ x, l1[k]? = some x := ⟨_, List.getElem?_eq_getElem (by rw [HN1.out]; exact hlt)⟩
    obtain ⟨y, hy⟩ : ∃ y, l2[k]? = some y := ⟨_, List.getElem?_eq_getElem (by rw [HN2.out]; exact hlt)⟩
    obtain ⟨tb, ot, hAe, hab, e0, e1, e2, e3⟩ := (HS1.out.below (hb'.mono hB)).cel hx
    obtain ⟨ub, uo, hAe2, hab2, g0, g1, g2, g3⟩ := (HS2.out.below (hb'.mono hB)).cel hy
    have hwz : tb < wr.heap.size := by omega
    have huz : ub < wr.heap.size := by omega
    subst hAe hAe2
    have HX := hide_ hx
    have HY := hide_ hy
    clear hx hy hb' HS1 HS2
    obtain ⟨a, b, c', d⟩ := x
    obtain ⟨a2, b2, c2', d2⟩ := y
    simp only at e0 e1 e2 e3 g0 g1 g2 g3
    by_cases hq : a = a2
    case neg =>
      have HD := hide_ (show decide (l1 = l2) = false by rw [decide_eq_false_iff_not]; rintro rfl; have h := HX.out.symm.trans HY.out; simp at h; exact hq (by simp [h]))
      have hd : (a == a2) = false := beq_eq_false_iff_ne.2 hq
      have hd2 : (a != a2) = true := bne_iff_ne.2 hq
      clear hq
      go_upto_region 6 with fail
      refine wp_region_held_drew (S := fun w' => w'.cell? ⟨tb, ot + k * 4, none⟩ = some (.int .u64 a) ∧ w'.cell? ⟨tb, ot + k * 4 + 1, none⟩ = some (.int .u8 b) ∧ w'.cell? ⟨tb, ot + k * 4 + 2, none⟩ = some (.int .i64 c') ∧ w'.cell? ⟨tb, ot + k * 4 + 3, none⟩ = some (.int .i64 d) ∧ w'.cell? ⟨ub, uo + k * 4, none⟩ = some (.int .u64 a2) ∧ w'.cell? ⟨ub, uo + k * 4 + 1, none⟩ = some (.int .u8 b2) ∧ w'.cell? ⟨ub, uo + k * 4 + 2, none⟩ = some (.int .i64 c2') ∧ w'.cell? ⟨ub, uo + k * 4 + 3, none⟩ = some (.int .i64 d2)) (by kernel_rfl) (⟨e0, e1, e2, e3, g0, g1, g2, g3⟩) (fun hHeld => ?_)
      refine tkY 0 16 ?v1 rfl ?hy1 (by assumption) ?rest1
      case hy1 => intro w hSw; (try dsimp only at hSw); go_simp <;> with_reducible rfl
      simp only [Act.put, sTI, sT0, sT1]
      refine tkY 1 17 ?v2 rfl ?hy2 (by assumption) ?rest2
      case hy2 => intro w hSw; (try dsimp only at hSw); go_simp <;> with_reducible rfl
      simp only [Act.put, sTI, sT0, sT1]
      refine tkY 2 18 ?v3 rfl ?hy3 (by assumption) ?rest3
      case hy3 => intro w hSw; (try dsimp only at hSw); go_simp <;> with_reducible rfl
      simp only [Act.put, sTI, sT0, sT1]
      refine tkY 3 19 ?v4 rfl ?hy4 (by assumption) ?rest4
      case hy4 => intro w hSw; (try dsimp only at hSw); go_simp <;> with_reducible rfl
      simp only [Act.put, sTI, sT0, sT1]
      refine tkY 4 20 ?v5 rfl ?hy5 (by assumption) ?rest5
      case hy5 => intro w hSw; (try dsimp only at hSw); go_simp <;> with_reducible rfl
      simp only [Act.put, sTI, sT0, sT1]
      refine tkY 5 21 ?v6 rfl ?hy6 (by assumption) ?rest6
      case hy6 => intro w hSw; (try dsimp only at hSw); go_simp <;> with_reducible rfl
      simp only [Act.put, sTI, sT0, sT1]
      refine tkY 6 22 ?v7 rfl ?hy7 (by assumption) ?rest7
      case hy7 => intro w hSw; (try dsimp only at hSw); go_simp <;> with_reducible rfl
      simp only [Act.put, sTI, sT0, sT1]
      refine tkY 7 23 ?v8 rfl ?hy8 (by assumption) ?rest8
      case hy8 => intro w hSw; (try dsimp only at hSw); go_simp <;> with_reducible rfl
      simp only [Act.put, sTI, sT0, sT1]
      refine tkY 8 24 ?v9 rfl ?hy9 (by assumption) ?rest9
      case hy9 => intro w hSw; (try dsimp only at hSw); go_simp <;> with_reducible rfl
      simp only [Act.put, sTI, sT0, sT1]
      refine wpAnyH_done (by kernel_rfl) ?_ _
      go_wp2_with fail
      go_ret
      exact ⟨ret_boolT HD.out.symm, HBW.out.drew⟩
    subst hq
    by_cases hq : b = b2
    case neg =>
      have HD := hide_ (show decide (l1 = l2) = false by rw [decide_eq_false_iff_not]; rintro rfl; have h := HX.out.symm.trans HY.out; simp at h; exact hq (by simp [h]))
      have hd : (b == b2) = false := beq_eq_false_iff_ne.2 hq
      have hd2 : (b != b2) = true := bne_iff_ne.2 hq
      clear hq
      go_upto_region 6 with fail
      refine wp_region_held_drew (S := fun w' => w'.cell? ⟨tb, ot + k * 4, none⟩ = some (.int .u64 a) ∧ w'.cell? ⟨tb, ot + k * 4 + 1, none⟩ = some (.int .u8 b) ∧ w'.cell? ⟨tb, ot + k * 4 + 2, none⟩ = some (.int .i64 c') ∧ w'.cell? ⟨tb, ot + k * 4 + 3, none⟩ = some (.int .i64 d) ∧ w'.cell? ⟨ub, uo + k * 4, none⟩ = some (.int .u64 a) ∧ w'.cell? ⟨ub, uo + k * 4 + 1, none⟩ = some (.int .u8 b2) ∧ w'.cell? ⟨ub, uo + k * 4 + 2, none⟩ = some (.int .i64 c2') ∧ w'.cell? ⟨ub, uo + k * 4 + 3, none⟩ = some (.int .i64 d2)) (by kernel_rfl) (⟨e0, e1, e2, e3, g0, g1, g2, g3⟩) (fun hHeld => ?_)
      refine tkY 0 16 ?v10 rfl ?hy10 (by assumption) ?rest10
      case hy10 => intro w hSw; (try dsimp only at hSw); go_simp <;> with_reducible rfl
      simp only [Act.put, sTI, sT0, sT1]
      refine tkY 1 17 ?v11 rfl ?hy11 (by assumption) ?rest11
      case hy11 => intro w hSw; (try dsimp only at hSw); go_simp <;> with_reducible rfl
      simp only [Act.put, sTI, sT0, sT1]
      refine tkY 2 18 ?v12 rfl ?hy12 (by assumption) ?rest12
      case hy12 => intro w hSw; (try dsimp only at hSw); go_simp <;> with_reducible rfl
      simp only [Act.put, sTI, sT0, sT1]
      refine tkY 3 19 ?v13 rfl ?hy13 (by assumption) ?rest13
      case hy13 => intro w hSw; (try dsimp only at hSw); go_simp <;> with_reducible rfl
      simp only [Act.put, sTI, sT0, sT1]
      refine tkY 4 20 ?v14 rfl ?hy14 (by assumption) ?rest14
      case hy14 => intro w hSw; (try dsimp only at hSw); go_simp <;> with_reducible rfl
      simp only [Act.put, sTI, sT0, sT1]
      refine tkY 5 21 ?v15 rfl ?hy15 (by assumption) ?rest15
      case hy15 => intro w hSw; (try dsimp only at hSw); go_simp <;> with_reducible rfl
      simp only [Act.put, sTI, sT0, sT1]
      refine tkY 6 22 ?v16 rfl ?hy16 (by assumption) ?rest16
      case hy16 => intro w hSw; (try dsimp only at hSw); go_simp <;> with_reducible rfl
      simp only [Act.put, sTI, sT0, sT1]
      refine tkY 7 23 ?v17 rfl ?hy17 (by assumption) ?rest17
      case hy17 => intro w hSw; (try dsimp only at hSw); go_simp <;> with_reducible rfl
      simp only [Act.put, sTI, sT0, sT1]
      refine tkY 8 24 ?v18 rfl ?hy18 (by assumption) ?rest18
      case hy18 => intro w hSw; (try dsimp only at hSw); go_simp <;> with_reducible rfl
      simp only [Act.put, sTI, sT0, sT1]
      refine wpAnyH_done (by kernel_rfl) ?_ _
      go_wp2_with fail
      go_ret
      exact ⟨ret_boolT HD.out.symm, HBW.out.drew⟩
    subst hq
    by_cases hq : c' = c2'
    case neg =>
      have HD := hide_ (show decide (l1 = l2) = false by rw [decide_eq_false_iff_not]; rintro rfl; have h := HX.out.symm.trans HY.out; simp at h; exact hq (by simp [h]))
      have hd : (c' == c2') = false := beq_eq_false_iff_ne.2 hq
      have hd2 : (c' != c2') = true := bne_iff_ne.2 hq
      clear hq
      go_upto_region 6 with fail
      refine wp_region_held_drew (S := fun w' => w'.cell? ⟨tb, ot + k * 4, none⟩ = some (.int .u64 a) ∧ w'.cell? ⟨tb, ot + k * 4 + 1, none⟩ = some (.int .u8 b) ∧ w'.cell? ⟨tb, ot + k * 4 + 2, none⟩ = some (.int .i64 c') ∧ w'.cell? ⟨tb, ot + k * 4 + 3, none⟩ = some (.int .i64 d) ∧ w'.cell? ⟨ub, uo + k * 4, none⟩ = some (.int .u64 a) ∧ w'.cell? ⟨ub, uo + k * 4 + 1, none⟩ = some (.int .u8 b) ∧ w'.cell? ⟨ub, uo + k * 4 + 2, none⟩ = some (.int .i64 c2') ∧ w'.cell? ⟨ub, uo + k * 4 + 3, none⟩ = some (.int .i64 d2)) (by kernel_rfl) (⟨e0, e1, e2, e3, g0, g1, g2, g3⟩) (fun hHeld => ?_)
      refine tkY 0 16 ?v19 rfl ?hy19 (by assumption) ?rest19
      case hy19 => intro w hSw; (try dsimp only at hSw); go_simp <;> with_reducible rfl
      simp only [Act.put, sTI, sT0, sT1]
      refine tkY 1 17 ?v20 rfl ?hy20 (by assumption) ?rest20
      case hy20 => intro w hSw; (try dsimp only at hSw); go_simp <;> with_reducible rfl
      simp only [Act.put, sTI, sT0, sT1]
      refine tkY 2 18 ?v21 rfl ?hy21 (by assumption) ?rest21
      case hy21 => intro w hSw; (try dsimp only at hSw); go_simp <;> with_reducible rfl
      simp only [Act.put, sTI, sT0, sT1]
      refine tkY 3 19 ?v22 rfl ?hy22 (by assumption) ?rest22
      case hy22 => intro w hSw; (try dsimp only at hSw); go_simp <;> with_reducible rfl
      simp only [Act.put, sTI, sT0, sT1]
      refine tkY 4 20 ?v23 rfl ?hy23 (by assumption) ?rest23
      case hy23 => intro w hSw; (try dsimp only at hSw); go_simp <;> with_reducible rfl
      simp only [Act.put, sTI, sT0, sT1]
      refine tkY 5 21 ?v24 rfl ?hy24 (by assumption) ?rest24
      case hy24 => intro w hSw; (try dsimp only at hSw); go_simp <;> with_reducible rfl
      simp only [Act.put, sTI, sT0, sT1]
      refine tkY 6 22 ?v25 rfl ?hy25 (by assumption) ?rest25
      case hy25 => intro w hSw; (try dsimp only at hSw); go_simp <;> with_reducible rfl
      simp only [Act.put, sTI, sT0, sT1]
      refine tkY 7 23 ?v26 rfl ?hy26 (by assumption) ?rest26
      case hy26 => intro w hSw; (try dsimp only at hSw); go_simp <;> with_reducible rfl
      simp only [Act.put, sTI, sT0, sT1]
      refine tkY 8 24 ?v27 rfl ?hy27 (by assumption) ?rest27
      case hy27 => intro w hSw; (try dsimp only at hSw); go_simp <;> with_reducible rfl
      simp only [Act.put, sTI, sT0, sT1]
      refine wpAnyH_done (by kernel_rfl) ?_ _
      go_wp2_with fail
      go_ret
      exact ⟨ret_boolT HD.out.symm, HBW.out.drew⟩
    subst hq
    by_cases hq : d = d2
    case neg =>
      have HD := hide_ (show decide (l1 = l2) = false by rw [decide_eq_false_iff_not]; rintro rfl; have h := HX.out.symm.trans HY.out; simp at h; exact hq (by simp [h]))
      have hd : (d == d2) = false := beq_eq_false_iff_ne.2 hq
      have hd2 : (d != d2) = true := bne_iff_ne.2 hq
      clear hq
      go_upto_region 6 with fail
      refine wp_region_held_drew (S := fun w' => w'.cell? ⟨tb, ot + k * 4, none⟩ = some (.int .u64 a) ∧ w'.cell? ⟨tb, ot + k * 4 + 1, none⟩ = some (.int .u8 b) ∧ w'.cell? ⟨tb, ot + k * 4 + 2, none⟩ = some (.int .i64 c') ∧ w'.cell? ⟨tb, ot + k * 4 + 3, none⟩ = some (.int .i64 d) ∧ w'.cell? ⟨ub, uo + k * 4, none⟩ = some (.int .u64 a) ∧ w'.cell? ⟨ub, uo + k * 4 + 1, none⟩ = some (.int .u8 b) ∧ w'.cell? ⟨ub, uo + k * 4 + 2, none⟩ = some (.int .i64 c') ∧ w'.cell? ⟨ub, uo + k * 4 + 3, none⟩ = some (.int .i64 d2)) (by kernel_rfl) (⟨e0, e1, e2, e3, g0, g1, g2, g3⟩) (fun hHeld => ?_)
      refine tkY 0 16 ?v28 rfl ?hy28 (by assumption) ?rest28
      case hy28 => intro w hSw; (try dsimp only at hSw); go_simp <;> with_reducible rfl
      simp only [Act.put, sTI, sT0, sT1]
      refine tkY 1 17 ?v29 rfl ?hy29 (by assumption) ?rest29
      case hy29 => intro w hSw; (try dsimp only at hSw); go_simp <;> with_reducible rfl
      simp only [Act.put, sTI, sT0, sT1]
      refine tkY 2 18 ?v30 rfl ?hy30 (by assumption) ?rest30
      case hy30 => intro w hSw; (try dsimp only at hSw); go_simp <;> with_reducible rfl
      simp only [Act.put, sTI, sT0, sT1]
      refine tkY 3 19 ?v31 rfl ?hy31 (by assumption) ?rest31
      case hy31 => intro w hSw; (try dsimp only at hSw); go_simp <;> with_reducible rfl
      simp only [Act.put, sTI, sT0, sT1]
      refine tkY 4 20 ?v32 rfl ?hy32 (by assumption) ?rest32
      case hy32 => intro w hSw; (try dsimp only at hSw); go_simp <;> with_reducible rfl
      simp only [Act.put, sTI, sT0, sT1]
      refine tkY 5 21 ?v33 rfl ?hy33 (by assumption) ?rest33
      case hy33 => intro w hSw; (try dsimp only at hSw); go_simp <;> with_reducible rfl
      simp only [Act.put, sTI, sT0, sT1]
      refine tkY 6 22 ?v34 rfl ?hy34 (by assumption) ?rest34
      case hy34 => intro w hSw; (try dsimp only at hSw); go_simp <;> with_reducible rfl
      simp only [Act.put, sTI, sT0, sT1]
      refine tkY 7 23 ?v35 rfl ?hy35 (by assumption) ?rest35
      case hy35 => intro w hSw; (try dsimp only at hSw); go_simp <;> with_reducible rfl
      simp only [Act.put, sTI, sT0, sT1]
      refine tkY 8 24 ?v36 rfl ?hy36 (by assumption) ?rest36
      case hy36 => intro w hSw; (try dsimp only at hSw); go_simp <;> with_reducible rfl
      simp only [Act.put, sTI, sT0, sT1]
      refine wpAnyH_done (by kernel_rfl) ?_ _
      go_wp2_with fail
      go_ret
      exact ⟨ret_boolT HD.out.symm, HBW.out.drew⟩
    subst hq
    have HJ2 := hide_ (show ∀ j, j < k + 1 → l1[j]? = l2[j]? from fun j hj => by
      by_cases h : j = k
      · rw [h, HX.out, HY.out]
      · exact HJ.out j (by omega))
    go_upto_region 6 with fail
    refine wp_region_held_drew (S := fun w' => w'.cell? ⟨tb, ot + k * 4, none⟩ = some (.int .u64 a) ∧ w'.cell? ⟨tb, ot + k * 4 + 1, none⟩ = some (.int .u8 b) ∧ w'.cell? ⟨tb, ot + k * 4 + 2, none⟩ = some (.int .i64 c') ∧ w'.cell? ⟨tb, ot + k * 4 + 3, none⟩ = some (.int .i64 d) ∧ w'.cell? ⟨ub, uo + k * 4, none⟩ = some (.int .u64 a) ∧ w'.cell? ⟨ub, uo + k * 4 + 1, none⟩ = some (.int .u8 b) ∧ w'.cell? ⟨ub, uo + k * 4 + 2, none⟩ = some (.int .i64 c') ∧ w'.cell? ⟨ub, uo + k * 4 + 3, none⟩ = some (.int .i64 d)) (by kernel_rfl) (⟨e0, e1, e2, e3, g0, g1, g2, g3⟩) (fun hHeld => ?_)
    refine tkY 0 16 ?v37 rfl ?hy37 (by assumption) ?rest37
    case hy37 => intro w hSw; (try dsimp only at hSw); go_simp <;> with_reducible rfl
    simp only [Act.put, sTI, sT0, sT1]
    refine tkY 1 17 ?v38 rfl ?hy38 (by assumption) ?rest38
    case hy38 => intro w hSw; (try dsimp only at hSw); go_simp <;> with_reducible rfl
    simp only [Act.put, sTI, sT0, sT1]
    refine tkY 2 18 ?v39 rfl ?hy39 (by assumption) ?rest39
    case hy39 => intro w hSw; (try dsimp only at hSw); go_simp <;> with_reducible rfl
    simp only [Act.put, sTI, sT0, sT1]
    refine tkY 3 19 ?v40 rfl ?hy40 (by assumption) ?rest40
    case hy40 => intro w hSw; (try dsimp only at hSw); go_simp <;> with_reducible rfl
    simp only [Act.put, sTI, sT0, sT1]
    refine tkY 4 20 ?v41 rfl ?hy41 (by assumption) ?rest41
    case hy41 => intro w hSw; (try dsimp only at hSw); go_simp <;> with_reducible rfl
    simp only [Act.put, sTI, sT0, sT1]
    refine tkY 5 21 ?v42 rfl ?hy42 (by assumption) ?rest42
    case hy42 => intro w hSw; (try dsimp only at hSw); go_simp <;> with_reducible rfl
    simp only [Act.put, sTI, sT0, sT1]
    refine tkY 6 22 ?v43 rfl ?hy43 (by assumption) ?rest43
    case hy43 => intro w hSw; (try dsimp only at hSw); go_simp <;> with_reducible rfl
    simp only [Act.put, sTI, sT0, sT1]
    refine tkY 7 23 ?v44 rfl ?hy44 (by assumption) ?rest44
    case hy44 => intro w hSw; (try dsimp only at hSw); go_simp <;> with_reducible rfl
    simp only [Act.put, sTI, sT0, sT1]
    refine tkY 8 24 ?v45 rfl ?hy45 (by assumption) ?rest45
    case hy45 => intro w hSw; (try dsimp only at hSw); go_simp <;> with_reducible rfl
    simp only [Act.put, sTI, sT0, sT1]
    refine wpAnyH_done (by kernel_rfl) ?_ _
    go_wp2_with fail
    go_roundw
    case rel => exact ⟨k + 1, by omega, by go_num, HJ2, HBW.out.drew⟩
    case measure => simp [intOf]; omega

end Go.Proofs.YtnkjdijbfnmnhaaGreat

/-
  Contract of slices.Equal at Mark.
-/
namespace Go.Proofs.YtnkjdijbfnmnhaaGreat
open Go.RowKit

set_option maxRecDepth 100000 in
set_option maxHeartbeats 3200000 in
theorem equalMark_any (l1 l2 : List (MrkM)) (A1 A2 : Option Addr) (n1 n2 c1 c2 B : Nat) (w : World) (hn1 : l1.length = n1) (hn2 : l2.length = n2) (hm : n1 ≤ 9223372036854775807) (hm2 : n2 ≤ 9223372036854775807) (h1 : Sees w B A1 (l1.flatMap mrkC)) (h2 : Sees w B A2 (l2.flatMap mrkC)) (hB : B ≤ w.heap.size) :
    Calls Tryz.prog 199 #[.slice A1 n1 c1, .slice A2 n2 c2] w fun e w' => e = .returned (.bool (decide (l1 = l2))) ∧ Below w.heap.size w w' := by
  by_cases hne : n1 = n2
  case neg =>
    have HD := hide_ (show decide (l1 = l2) = false by rw [decide_eq_false_iff_not]; intro e; exact hne (by rw [← hn1, ← hn2, e]))
    have hb : ((n1 : Int) != (n2 : Int)) = true := by simpa using (show ¬ (n1 : Int) = n2 by omega)
    clear hn1 hn2 h1 h2 hne
    go_enter Tryz.func199, Tryz.ntmps199
    go_wp2
    go_ret
    exact ⟨ret_boolT HD.out.symm, Below.refl _ _⟩
  subst hne
  have hb : ((n1 : Int) != (n1 : Int)) = false := by simp
  have HN1 := hide_ hn1
  have HN2 := hide_ hn2
  have HS1 := hide_ h1
  have HS2 := hide_ h2
  clear hn1 hn2 h1 h2
  go_enter Tryz.func199, Tryz.ntmps199
  go_wp2
  go_loopw [13] (fun i wr => ∃ k : Nat, k ≤ n1 ∧ i = .int .i64 k ∧ Hid (∀ j, j < k → l1[j]? = l2[j]?) ∧ Below w.heap.size w wr) (fun i _ => n1 - (intOf i).toNat)
  case atStart => exact ⟨0, Nat.zero_le _, rfl, (fun j hj => absurd hj (by omega)), Below.refl _ _⟩
  case round =>
    obtain ⟨k, hk, rfl, HJ, hb'⟩ := hrel
    have HBW := hide_ hb'
    have hzw : w.heap.size ≤ wr.heap.size := hb'.size
    by_cases hlt : k < n1
    case neg =>
      obtain rfl : k = n1 := by omega
      have HD := hide_ (show decide (l1 = l2) = true by
        rw [decide_eq_true_eq]
        refine List.ext_getElem? fun j => ?_
        by_cases h : j < k
        · exact HJ.out j h
        · rw [List.getElem?_eq_none (by rw [HN1.out]; omega), List.getElem?_eq_none (by rw [HN2.out]; omega)])
      clear hb'
      go_wp2
      go_ret
      exact ⟨ret_boolT HD.out.symm, HBW.out⟩
    obtain ⟨x, hx⟩ : ∃ x, l1[k]? = some x := ⟨_, List.getElem?_eq_getElem (by rw [HN1.out]; exact hlt)⟩
    obtain ⟨y, hy⟩ : ∃ y, l2[k]? = some y := ⟨_, List.getElem?_eq_getElem (by rw [HN2.out]; exact hlt)⟩
    obtain ⟨tb, ot, hAe, hab, e0, e1, e2⟩ := (HS1.out.below (hb'.mono hB)).mrk hx
    obtain ⟨ub, uo, hAe2, hab2, g0, g1, g2⟩ := (HS2.out.below (hb'.mono hB)).mrk hy
    have hwz : tb < wr.heap.size := by omega
    have huz : ub < wr.heap.size := by omega
    subst hAe hAe2
    have HX := hide_ hx
    have HY := hide_ hy
    clear hx hy hb' HS1 HS2
    obtain ⟨a, b, c'⟩ := x
    obtain ⟨a2, b2, c2'⟩ := y
    simp only at e0 e1 e2 g0 g1 g2
    by_cases hq : a = a2
    case neg =>
      have HD := hide_ (show decide (l1 = l2) = false by rw [decide_eq_false_iff_not]; rintro rfl; have h := HX.out.symm.trans HY.out; simp at h; exact hq (by simp [h]))
      have hd : (a == a2) = false := beq_eq_false_iff_ne.2 hq
      have hd2 : (a != a2) = true := bne_iff_ne.2 hq
      clear hq
      go_upto_region 6 with fail
      refine wp_region_held_drew (S := fun w' => w'.cell? ⟨tb, ot + k * 3, none⟩ = some (.int .u8 a) ∧ w'.cell? ⟨tb, ot + k * 3 + 1, none⟩ = some (.int .u64 b) ∧ w'.cell? ⟨tb, ot + k * 3 + 2, none⟩ = some (.int .u64 c') ∧ w'.cell? ⟨ub, uo + k * 3, none⟩ = some (.int .u8 a2) ∧ w'.cell? ⟨ub, uo + k * 3 + 1, none⟩ = some (.int .u64 b2) ∧ w'.cell? ⟨ub, uo + k * 3 + 2, none⟩ = some (.int .u64 c2')) (by kernel_rfl) (⟨e0, e1, e2, g0, g1, g2⟩) (fun hHeld => ?_)
      refine tkY 0 16 ?v1 rfl ?hy1 (by assumption) ?rest1
      case hy1 => intro w hSw; (try dsimp only at hSw); go_simp <;> with_reducible rfl
      simp only [Act.put, sTI, sT0, sT1]
      refine tkY 1 17 ?v2 rfl ?hy2 (by assumption) ?rest2
      case hy2 => intro w hSw; (try dsimp only at hSw); go_simp <;> with_reducible rfl
      simp only [Act.put, sTI, sT0, sT1]
      refine tkY 2 18 ?v3 rfl ?hy3 (by assumption) ?rest3
      case hy3 => intro w hSw; (try dsimp only at hSw); go_simp <;> with_reducible rfl
      simp only [Act.put, sTI, sT0, sT1]
      refine tkY 3 19 ?v4 rfl ?hy4 (by assumption) ?rest4
      case hy4 => intro w hSw; (try dsimp only at hSw); go_simp <;> with_reducible rfl
      simp only [Act.put, sTI, sT0, sT1]
      refine tkY 4 20 ?v5 rfl ?hy5 (by assumption) ?rest5
      case hy5 => intro w hSw; (try dsimp only at hSw); go_simp <;> with_reducible rfl
      simp only [Act.put, sTI, sT0, sT1]
      refine tkY 5 21 ?v6 rfl ?hy6 (by assumption) ?rest6
      case hy6 => intro w hSw; (try dsimp only at hSw); go_simp <;> with_reducible rfl
      simp only [Act.put, sTI, sT0, sT1]
      refine tkY 6 22 ?v7 rfl ?hy7 (by assumption) ?rest7
      case hy7 => intro w hSw; (try dsimp only at hSw); go_simp <;> with_reducible rfl
      simp only [Act.put, sTI, sT0, sT1]
      refine tkY 7 23 ?v8 rfl ?hy8 (by assumption) ?rest8
      case hy8 => intro w hSw; (try dsimp only at hSw); go_simp <;> with_reducible rfl
      simp only [Act.put, sTI, sT0, sT1]
      refine tkY 8 24 ?v9 rfl ?hy9 (by assumption) ?rest9
      case hy9 => intro w hSw; (try dsimp only at hSw); go_simp <;> with_reducible rfl
      simp only [Act.put, sTI, sT0, sT1]
      refine wpAnyH_done (by kernel_rfl) ?_ _
      go_wp2_with fail
      go_ret
      exact ⟨ret_boolT HD.out.symm, HBW.out.drew⟩
    subst hq
    by_cases hq : b = b2
    case neg =>
      have HD := hide_ (show decide (l1 = l2) = false by rw [decide_eq_false_iff_not]; rintro rfl; have h := HX.out.symm.trans HY.out; simp at h; exact hq (by simp [h]))
      have hd : (b == b2) = false := beq_eq_false_iff_ne.2 hq
      have hd2 : (b != b2) = true := bne_iff_ne.2 hq
      clear hq
      go_upto_region 6 with fail
      refine wp_region_held_drew (S := fun w' => w'.cell? ⟨tb, ot + k * 3, none⟩ = some (.int .u8 a) ∧ w'.cell? ⟨tb, ot + k * 3 + 1, none⟩ = some (.int .u64 b) ∧ w'.cell? ⟨tb, ot + k * 3 + 2, none⟩ = some (.int .u64 c') ∧ w'.cell? ⟨ub, uo + k * 3, none⟩ = some (.int .u8 a) ∧ w'.cell? ⟨ub, uo + k * 3 + 1, none⟩ = some (.int .u64 b2) ∧ w'.cell? ⟨ub, uo + k * 3 + 2, none⟩ = some (.int .u64 c2')) (by kernel_rfl) (⟨e0, e1, e2, g0, g1, g2⟩) (fun hHeld => ?_)
      refine tkY 0 16 ?v10 rfl ?hy10 (by assumption) ?rest10
      case hy10 => intro w hSw; (try dsimp only at hSw); go_simp <;> with_reducible rfl
      simp only [Act.put, sTI, sT0, sT1]
      refine tkY 1 17 ?v11 rfl ?hy11 (by assumption) ?rest11
      case hy11 => intro w hSw; (try dsimp only at hSw); go_simp <;> with_reducible rfl
      simp only [Act.put, sTI, sT0, sT1]
      refine tkY 2 18 ?v12 rfl ?hy12 (by assumption) ?rest12
      case hy12 => intro w hSw; (try dsimp only at hSw); go_simp <;> with_reducible rfl
      simp only [Act.put, sTI, sT0, sT1]
      refine tkY 3 19 ?v13 rfl ?hy13 (by assumption) ?rest13
      case hy13 => intro w hSw; (try dsimp only at hSw); go_simp <;> with_reducible rfl
      simp only [Act.put, sTI, sT0, sT1]
      refine tkY 4 20 ?v14 rfl ?hy14 (by assumption) ?rest14
      case hy14 => intro w hSw; (try dsimp only at hSw); go_simp <;> with_reducible rfl
      simp only [Act.put, sTI, sT0, sT1]
      refine tkY 5 21 ?v15 rfl ?hy15 (by assumption) ?rest15
      case hy15 => intro w hSw; (try dsimp only at hSw); go_simp <;> with_reducible rfl
      simp only [Act.put, sTI, sT0, sT1]
      refine tkY 6 22 ?v16 rfl ?hy16 (by assumption) ?rest16
      case hy16 => intro w hSw; (try dsimp only at hSw); go_simp <;> with_reducible rfl
      simp only [Act.put, sTI, sT0, sT1]
      refine tkY 7 23 ?v17 rfl ?hy17 (by assumption) ?rest17
      case hy17 => intro w hSw; (try dsimp only at hSw); go_simp <;> with_reducible rfl
      simp only [Act.put, sTI, sT0, sT1]
      refine tkY 8 24 ?v18 rfl ?hy18 (by assumption) ?rest18
      case hy18 => intro w hSw; (try dsimp only at hSw); go_simp <;> with_reducible rfl
      simp only [Act.put, sTI, sT0, sT1]
      refine wpAnyH_done (by kernel_rfl) ?_ _
      go_wp2_with fail
      go_ret
      exact ⟨ret_boolT HD.out.symm, HBW.out.drew⟩
    subst hq
    by_cases hq : c' = c2'
    case neg =>
      have HD := hide_ (show decide (l1 = l2) = false by rw [decide_eq_false_iff_not]; rintro rfl; have h := HX.out.symm.trans HY.out; simp at h; exact hq (by simp [h]))
      have hd : (c' == c2') = false := beq_eq_false_iff_ne.2 hq
      have hd2 : (c' != c2') = true := bne_iff_ne.2 hq
      clear hq
      go_upto_region 6 with fail
      refine wp_region_held_drew (S := fun w' => w'.cell? ⟨tb, ot + k * 3, none⟩ = some (.int .u8 a) ∧ w'.cell? ⟨tb, ot + k * 3 + 1, none⟩ = some (.int .u64 b) ∧ w'.cell? ⟨tb, ot + k * 3 + 2, none⟩ = some (.int .u64 c') ∧ w'.cell? ⟨ub, uo + k * 3, none⟩ = some (.int .u8 a) ∧ w'.cell? ⟨ub, uo + k * 3 + 1, none⟩ = some (.int .u64 b) ∧ w'.cell? ⟨ub, uo + k * 3 + 2, none⟩ = some (.int .u64 c2')) (by kernel_rfl) (⟨e0, e1, e2, g0, g1, g2⟩) (fun hHeld => ?_)
      refine tkY 0 16 ?v19 rfl ?hy19 (by assumption) ?rest19
      case hy19 => intro w hSw; (try dsimp only at hSw); go_simp <;> with_reducible rfl
      simp only [Act.put, sTI, sT0, sT1]
      refine tkY 1 17 ?v20 rfl ?hy20 (by assumption) ?rest20
      case hy20 => intro w hSw; (try dsimp only at hSw); go_simp <;> with_reducible rfl
      simp only [Act.put, sTI, sT0, sT1]
      refine tkY 2 18 ?v21 rfl ?hy21 (by assumption) ?rest21
      case hy21 => intro w hSw; (try dsimp only at hSw); go_simp <;> with_reducible rfl
      simp only [Act.put, sTI, sT0, sT1]
      refine tkY 3 19 ?v22 rfl ?hy22 (by assumption) ?rest22
      case hy22 => intro w hSw; (try dsimp only at hSw); go_simp <;> with_reducible rfl
      simp only [Act.put, sTI, sT0, sT1]
      refine tkY 4 20 ?v23 rfl ?hy23 (by assumption) ?rest23
      case hy23 => intro w hSw; (try dsimp only at hSw); go_simp <;> with_reducible rfl
      simp only [Act.put, sTI, sT0, sT1]
      refine tkY 5 21 ?v24 rfl ?hy24 (by assumption) ?rest24
      case hy24 => intro w hSw; (try dsimp only at hSw); go_simp <;> with_reducible rfl
      simp only [Act.put, sTI, sT0, sT1]
      refine tkY 6 22 ?v25 rfl ?hy25 (by assumption) ?rest25
      case hy25 => intro w hSw; (try dsimp only at hSw); go_simp <;> with_reducible rfl
      simp only [Act.put, sTI, sT0, sT1]
      refine tkY 7 23 ?v26 rfl ?hy26 (by assumption) ?rest26
      case hy26 => intro w hSw; (try dsimp only at hSw); go_simp <;> with_reducible rfl
      simp only [Act.put, sTI, sT0, sT1]
      refine tkY 8 24 ?v27 rfl ?hy27 (by assumption) ?rest27
      case hy27 => intro w hSw; (try dsimp only at hSw); go_simp <;> with_reducible rfl
      simp only [Act.put, sTI, sT0, sT1]
      refine wpAnyH_done (by kernel_rfl) ?_ _
      go_wp2_with fail
      go_ret
      exact ⟨ret_boolT HD.out.symm, HBW.out.drew⟩
    subst hq
    have HJ2 := hide_ (show ∀ j, j < k + 1 → l1[j]? = l2[j]? from fun j hj => by
      by_cases h : j = k
      · rw [h, HX.out, HY.out]
      · exact HJ.out j (by omega))
    go_upto_region 6 with fail
    refine wp_region_held_drew (S := fun w' => w'.cell? ⟨tb, ot + k * 3, none⟩ = some (.int .u8 a) ∧ w'.cell? ⟨tb, ot + k * 3 + 1, none⟩ = some (.int .u64 b) ∧ w'.cell? ⟨tb, ot + k * 3 + 2, none⟩ = some (.int .u64 c') ∧ w'.cell? ⟨ub, uo + k * 3, none⟩ = some (.int .u8 a) ∧ w'.cell? ⟨ub, uo + k * 3 + 1, none⟩ = some (.int .u64 b) ∧ w'.cell? ⟨ub, uo + k * 3 + 2, none⟩ = some (.int .u64 c')) (by kernel_rfl) (⟨e0, e1, e2, g0, g1, g2⟩) (fun hHeld => ?_)
    refine tkY 0 16 ?v28 rfl ?hy28 (by assumption) ?rest28
    case hy28 => intro w hSw; (try dsimp only at hSw); go_simp <;> with_reducible rfl
    simp only [Act.put, sTI, sT0, sT1]
    refine tkY 1 17 ?v29 rfl ?hy29 (by assumption) ?rest29
    case hy29 => intro w hSw; (try dsimp only at hSw); go_simp <;> with_reducible rfl
    simp only [Act.put, sTI, sT0, sT1]
    refine tkY 2 18 ?v30 rfl ?hy30 (by assumption) ?rest30
    case hy30 => intro w hSw; (try dsimp only at hSw); go_simp <;> with_reducible rfl
    simp only [Act.put, sTI, sT0, sT1]
    refine tkY 3 19 ?v31 rfl ?hy31 (by assumption) ?rest31
    case hy31 => intro w hSw; (try dsimp only at hSw); go_simp <;> with_reducible rfl
    simp only [Act.put, sTI, sT0, sT1]
    refine tkY 4 20 ?v32 rfl ?hy32 (by assumption) ?rest32
    case hy32 => intro w hSw; (try dsimp only at hSw); go_simp <;> with_reducible rfl
    simp only [Act.put, sTI, sT0, sT1]
    refine tkY 5 21 ?v33 rfl ?hy33 (by assumption) ?rest33
    case hy33 => intro w hSw; (try dsimp only at hSw); go_simp <;> with_reducible rfl
    simp only [Act.put, sTI, sT0, sT1]
    refine tkY 6 22 ?v34 rfl ?hy34 (by assumption) ?rest34
    case hy34 => intro w hSw; (try dsimp only at hSw); go_simp <;> with_reducible rfl
    simp only [Act.put, sTI, sT0, sT1]
    refine tkY 7 23 ?v35 rfl ?hy35 (by assumption) ?rest35
    case hy35 => intro w hSw; (try dsimp only at hSw); go_simp <;> with_reducible rfl
    simp only [Act.put, sTI, sT0, sT1]
    refine tkY 8 24 ?v36 rfl ?hy36 (by assumption) ?rest36
    case hy36 => intro w hSw; (try dsimp only at hSw); go_simp <;> with_reducible rfl
    simp only [Act.put, sTI, sT0, sT1]
    refine wpAnyH_done (by kernel_rfl) ?_ _
    go_wp2_with fail
    go_roundw
    case rel => exact ⟨k + 1, by omega, by go_num, HJ2, HBW.out.drew⟩
    case measure => simp [intOf]; omega

end Go.Proofs.YtnkjdijbfnmnhaaGreat

/-
  Contracts of reg's Same and May.
-/
namespace Go.Proofs.YtnkjdijbfnmnhaaGreat
open Go.RowKit

theorem regP_eq (a b : RegP) : decide (a = b) = (decide (a.ki = b.ki) && (decide (a.inc = b.inc) && (decide (a.st = b.st) && (decide (a.va = b.va) && (decide (a.dn = b.dn) && (decide (a.ou = b.ou) && (decide (a.la = b.la) && decide (a.ma = b.ma)))))))) := by
  obtain ⟨_, _, _, _, _, _, _, _⟩ := a
  obtain ⟨_, _, _, _, _, _, _, _⟩ := b
  rw [Bool.eq_iff_iff]
  simp only [RegP.mk.injEq, Bool.and_eq_true, decide_eq_true_eq]

set_option maxRecDepth 100000 in
set_option maxHeartbeats 6400000 in
theorem sameReg_any (x y : RegM) (B : Nat) (w : World) (hx : RegM.ok w B x) (hy : RegM.ok w B y) (hB : B ≤ w.heap.size) : Calls Tryz.prog 127 #[x.v, y.v] w fun e w' => e = .returned (.bool (decide (x.p = y.p))) ∧ Below w.heap.size w w' := by
  have HW := hide_ (show Below w.heap.size w ((w.alloc (.cells x.box 31)).alloc (.cells y.box 31)) from ((Below.refl _ _).alloc (Nat.le_refl _) _).alloc (by simp) _)
  have HX := hide_ ((BoxAt.new w x.box 31).alloc (.cells y.box 31))
  have HY := hide_ (show BoxAt ((w.alloc (.cells x.box 31)).alloc (.cells y.box 31)) (w.heap.size + 1) y.box 31 by
    have := BoxAt.new (w.alloc (.cells x.box 31)) y.box 31
    simpa using this)
  have HCI := hide_ (fun (u : World) (hb : Below w.heap.size w u) => equalInt_any x.va.l y.va.l x.va.A y.va.A x.va.l.length y.va.l.length x.va.c y.va.c B u rfl rfl (sl_len hx.2.1) (sl_len hy.2.1) (hx.2.1.2.2.1.below (hb.mono hB)) (hy.2.1.2.2.1.below (hb.mono hB)) (Nat.le_trans hB hb.size))
  have HCD := hide_ (fun (u : World) (hb : Below w.heap.size w u) => equalDone_any x.dn y.dn B u (dns_stable.below hx.2.2.1 (hb.mono hB)) (dns_stable.below hy.2.2.1 (hb.mono hB)) (Nat.le_trans hB hb.size))
  have HCC := hide_ (fun (u : World) (hb : Below w.heap.size w u) => equalCell_any x.ou.l y.ou.l x.ou.A y.ou.A x.ou.l.length y.ou.l.length x.ou.c y.ou.c B u rfl rfl (sl_len hx.2.2.2.1) (sl_len hy.2.2.2.1) (hx.2.2.2.1.2.2.1.below (hb.mono hB)) (hy.2.2.2.1.2.2.1.below (hb.mono hB)) (Nat.le_trans hB hb.size))
  have HCM := hide_ (fun (u : World) (hb : Below w.heap.size w u) => equalMark_any x.ma.l y.ma.l x.ma.A y.ma.A x.ma.l.length y.ma.l.length x.ma.c y.ma.c B u rfl rfl (sl_len hx.2.2.2.2) (sl_len hy.2.2.2.2) (hx.2.2.2.2.2.2.1.below (hb.mono hB)) (hy.2.2.2.2.2.2.1.below (hb.mono hB)) (Nat.le_trans hB hb.size))
  have HP := hide_ (regP_eq x.p y.p)
  rw [HP.out]
  unfold RegM.p
  simp only
  obtain ⟨q4, h4⟩ : ∃ q, decide (x.va.l = y.va.l) = q := ⟨_, rfl⟩
  obtain ⟨q5, h5⟩ : ∃ q, decide (x.dn.l.map DoneM.p = y.dn.l.map DoneM.p) = q := ⟨_, rfl⟩
  obtain ⟨q6, h6⟩ : ∃ q, decide (x.ou.l = y.ou.l) = q := ⟨_, rfl⟩
  obtain ⟨q8, h8⟩ : ∃ q, decide (x.ma.l = y.ma.l) = q := ⟨_, rfl⟩
  simp only [h4] at HCI ⊢
  simp only [h5] at HCD ⊢
  simp only [h6] at HCC ⊢
  simp only [h8] at HCM ⊢
  clear HP h4 h5 h6 h8 hx hy
  obtain ⟨ki, inc, st, ⟨vA, vc, vl⟩, ⟨dA, dc, dl⟩, ⟨oA, oc, ol⟩, la, ⟨mA, mc, ml⟩⟩ := x
  obtain ⟨ki2, inc2, st2, ⟨vA2, vc2, vl2⟩, ⟨dA2, dc2, dl2⟩, ⟨oA2, oc2, ol2⟩, la2, ⟨mA2, mc2, ml2⟩⟩ := y
  simp only [RegM.v, RegM.box, Sl.v] at HCI HCD HCC HCM HW HX HY ⊢
  by_cases c0 : ki = ki2
  case neg =>
    have hd : (ki == ki2) = false := beq_eq_false_iff_ne.2 c0
    have hf := decide_eq_false c0
    have HE := hide_ hf
    clear c0 hf
    go_enter Tryz.func127, Tryz.ntmps127
    go_wp2
    go_ret
    exact ⟨by rw [HE.out]; simp, HW.out⟩
  subst c0
  by_cases c1 : inc = inc2
  case neg =>
    have hd : (inc == inc2) = false := beq_eq_false_iff_ne.2 c1
    have hf := decide_eq_false c1
    have HE := hide_ hf
    clear c1 hf
    go_enter Tryz.func127, Tryz.ntmps127
    go_wp2
    go_ret
    exact ⟨by rw [HE.out]; simp, HW.out⟩
  subst c1
  by_cases c2 : st = st2
  case neg =>
    have hd : (st == st2) = false := beq_eq_false_iff_ne.2 c2
    have hf := decide_eq_false c2
    have HE := hide_ hf
    clear c2 hf
    go_enter Tryz.func127, Tryz.ntmps127
    go_wp2
    go_ret
    exact ⟨by rw [HE.out]; simp, HW.out⟩
  subst c2
  simp only [decide_true, Bool.true_and]
  go_enter Tryz.func127, Tryz.ntmps127
  go_wp2_with fail
  refine (HCI.out _ HW.out).mono ?_
  rintro en w1 ⟨rfl, hb1⟩
  have HB1 := hide_ (HW.out.trans (hb1.mono HW.out.size))
  have HX1 := hide_ (HX.out.below hb1)
  have HY1 := hide_ (HY.out.below hb1)
  clear hb1
  have hz1 : w.heap.size < w1.heap.size := HX1.out.lt
  have hy1 : w.heap.size + 1 < w1.heap.size := HY1.out.lt
  have hcx := HX1.out.cell
  have hcy := HY1.out.cell
  cases q4 with
  | false =>
    go_wp2
    go_ret
    exact ⟨by simp, HB1.out⟩
  | true =>
  go_wp2_with fail
  refine (HCD.out _ HB1.out).mono ?_
  rintro en w2 ⟨rfl, hb2⟩
  have HB2 := hide_ (HB1.out.trans (hb2.mono HB1.out.size))
  have HX2 := hide_ (HX1.out.below hb2)
  have HY2 := hide_ (HY1.out.below hb2)
  clear hb2 hcx hcy
  have hz2 : w.heap.size < w2.heap.size := HX2.out.lt
  have hy2 : w.heap.size + 1 < w2.heap.size := HY2.out.lt
  have hcx := HX2.out.cell
  have hcy := HY2.out.cell
  cases q5 with
  | false =>
    go_wp2
    go_ret
    exact ⟨by simp, HB2.out⟩
  | true =>
  go_wp2_with fail
  refine (HCC.out _ HB2.out).mono ?_
  rintro en w3 ⟨rfl, hb3⟩
  have HB3 := hide_ (HB2.out.trans (hb3.mono HB2.out.size))
  have HX3 := hide_ (HX2.out.below hb3)
  have HY3 := hide_ (HY2.out.below hb3)
  clear hb3 hcx hcy
  have hz3 : w.heap.size < w3.heap.size := HX3.out.lt
  have hy3 : w.heap.size + 1 < w3.heap.size := HY3.out.lt
  have hcx := HX3.out.cell
  have hcy := HY3.out.cell
  cases q6 with
  | false =>
    go_wp2
    go_ret
    exact ⟨by simp, HB3.out⟩
  | true =>
  by_cases c6 : la = la2
  case neg =>
    have hd : (la == la2) = false := beq_eq_false_iff_ne.2 c6
    have hf := decide_eq_false c6
    have HE := hide_ hf
    clear c6 hf
    go_wp2
    go_ret
    exact ⟨by rw [HE.out]; simp, HB3.out⟩
  subst c6
  go_wp2_with fail
  refine (HCM.out _ HB3.out).mono ?_
  rintro en w4 ⟨rfl, hb4⟩
  have HB4 := hide_ (HB3.out.trans (hb4.mono HB3.out.size))
  clear hb4 hcx hcy
  go_wp2
  go_ret
  exact ⟨by simp, HB4.out⟩

set_option maxRecDepth 100000 in
set_option maxHeartbeats 3200000 in
theorem mayReg_any (x : RegM) (B : Nat) (w : World) (hx : RegM.ok w B x) (hB : B ≤ w.heap.size) : Calls Tryz.prog 96 #[x.v] w fun e w' => e = .returned (.bool (mayG x.p)) ∧ Below w.heap.size w w' := by
  have HW := hide_ (show Below w.heap.size w (w.alloc (.cells x.box 31)) from (Below.refl _ _).alloc (Nat.le_refl _) _)
  have HX := hide_ (BoxAt.new w x.box 31)
  have HS := hide_ (fun (u : World) (hb : Below w.heap.size w u) => sameReg_any x zeroM B u (reg_stable.below hx (hb.mono hB)) (zeroM_ok u B) (Nat.le_trans hB hb.size))
  have HM := hide_ (fun (u : World) (hb : Below w.heap.size w u) => mayStand_any6 x u.heap.size u (reg_stable.more (reg_stable.below hx (hb.mono hB)) (Nat.le_trans hB hb.size)) (Nat.le_refl _))
  have hm1 := sl_len hx.2.1
  have hm2 := sl_len hx.2.2.2.1
  have hk0 := hx.1.1
  have HZ := hide_ (show mayG x.p = if x.ki = 0 then decide (x.p = zeroP) else if x.ki = 1 then stnB x.p else if x.ki = 2 then stnB x.p && (decide (x.st = 0) && (decide (x.va.l.length = 0) && decide (x.ou.l.length = 0))) else false from rfl)
  rw [HZ.out]
  obtain ⟨q1, h1⟩ : ∃ q, decide (x.p = zeroP) = q := ⟨_, rfl⟩
  obtain ⟨q2, h2⟩ : ∃ q, stnB x.p = q := ⟨_, rfl⟩
  simp only [show zeroM.p = zeroP from rfl, h1] at HS
  simp only [h2] at HM
  simp only [h1, h2]
  clear HZ h1 h2 hx
  obtain ⟨ki, inc, st, ⟨vA, vc, vl⟩, ⟨dA, dc, dl⟩, ⟨oA, oc, ol⟩, la, ⟨mA, mc, ml⟩⟩ := x
  simp only [RegM.v, RegM.box, Sl.v, zeroM, List.length_nil] at HS HM HW HX hm1 hm2 hk0 ⊢
  obtain ⟨nv, hnv⟩ : ∃ n, vl.length = n := ⟨_, rfl⟩
  obtain ⟨no, hno⟩ : ∃ n, ol.length = n := ⟨_, rfl⟩
  simp only [hnv, hno] at HS HM HW HX hm1 hm2 ⊢
  clear hnv hno
  by_cases k0 : ki = 0
  · subst k0
    simp only [if_true]
    go_enter Tryz.func96, Tryz.ntmps96
    go_wp2_with fail
    refine (HS.out _ HW.out).mono ?_
    rintro en w1 ⟨rfl, hb1⟩
    have HB1 := hide_ (HW.out.trans (hb1.mono (by simp)))
    clear hb1
    go_wp2
    go_ret
    exact ⟨rfl, HB1.out⟩
  have hd0 : (ki == 0) = false := beq_eq_false_iff_ne.2 k0
  rw [if_neg k0]
  by_cases k1 : ki = 1
  · subst k1
    simp only [if_true]
    clear hd0 k0
    go_enter Tryz.func96, Tryz.ntmps96
    go_wp2_with fail
    refine (HM.out _ HW.out).mono ?_
    rintro en w1 ⟨rfl, hb1⟩
    have HB1 := hide_ (HW.out.trans (hb1.mono (by simp)))
    clear hb1
    go_wp2
    go_ret
    exact ⟨rfl, HB1.out⟩
  have hd1 : (ki == 1) = false := beq_eq_false_iff_ne.2 k1
  rw [if_neg k1]
  by_cases k2 : ki = 2
  · subst k2
    simp only [if_true]
    clear hd0 k0 hd1 k1
    go_enter Tryz.func96, Tryz.ntmps96
    go_wp2_with fail
    refine (HM.out _ HW.out).mono ?_
    rintro en w1 ⟨rfl, hb1⟩
    have HB1 := hide_ (HW.out.trans (hb1.mono (by simp)))
    have HX1 := hide_ (HX.out.below hb1)
    clear hb1
    have hz1 : w.heap.size < w1.heap.size := HX1.out.lt
    have hcx := HX1.out.cell
    cases q2 with
    | false =>
      go_wp2
      go_ret
      exact ⟨rfl, HB1.out⟩
    | true =>
    by_cases c1 : st = 0
    case neg =>
      have hd : (st == 0) = false := beq_eq_false_iff_ne.2 c1
      have HE := hide_ (decide_eq_false c1)
      clear c1
      go_wp2
      go_ret
      exact ⟨by rw [HE.out]; simp, HB1.out⟩
    subst c1
    by_cases c2 : nv = 0
    case neg =>
      have hd : ((nv : Int) == 0) = false := beq_eq_false_iff_ne.2 (by omega)
      have HE := hide_ (decide_eq_false c2)
      clear c2
      go_wp2
      go_ret
      exact ⟨by rw [HE.out]; simp, HB1.out⟩
    subst c2
    by_cases c3 : no = 0
    case neg =>
      have hd : ((no : Int) == 0) = false := beq_eq_false_iff_ne.2 (by omega)
      have HE := hide_ (decide_eq_false c3)
      clear c3
      go_wp2
      go_ret
      exact ⟨by rw [HE.out]; simp, HB1.out⟩
    subst c3
    go_wp2
    go_ret
    exact ⟨by simp, HB1.out⟩
  have hd2 : (ki == 2) = false := beq_eq_false_iff_ne.2 k2
  rw [if_neg k2]
  clear k0 k1 k2
  go_enter Tryz.func96, Tryz.ntmps96
  go_wp2
  go_ret
  exact ⟨rfl, HW.out⟩
end Go.Proofs.YtnkjdijbfnmnhaaGreat

/-
  Contracts of table's taker: formulas, sets, emits.
-/
namespace Go.Proofs.YtnkjdijbfnmnhaaGreat
open Go.RowKit

def tokS (s : RS) : (Int × Int) × RS := ((((numS 255 s).1 : Int), (intS (numS 255 s).2).1), (intS (numS 255 s).2).2)
def fmlS (s : RS) : List (Int × Int) × RS := manyS 24 tokS s
def setS (s : RS) : SetM × RS := (⟨((numS 1000 s).1 : Int), ⟨none, 0, (fmlS (numS 1000 s).2).1⟩⟩, (fmlS (numS 1000 s).2).2)
def emS (s : RS) : EmM × RS := (⟨((numS 255 s).1 : Int), ((numS 1000 (numS 255 s).2).1 : Int), ⟨none, 0, (fmlS (numS 1000 (numS 255 s).2).2).1⟩⟩, (fmlS (numS 1000 (numS 255 s).2).2).2)
theorem tokS_ok {s : RS} (h : RSok s) : RSok (tokS s).2 := (intS_ok (numS_ok h).1).1
theorem fmlS_ok {s : RS} (h : RSok s) : RSok (fmlS s).2 := manyS_ok (fun _ h => tokS_ok h) h
theorem setS_ok {s : RS} (h : RSok s) : RSok (setS s).2 := fmlS_ok (numS_ok h).1
theorem emS_ok {s : RS} (h : RSok s) : RSok (emS s).2 := fmlS_ok (numS_ok (numS_ok h).1).1

end Go.Proofs.YtnkjdijbfnmnhaaGreat

/-
  Contracts of table's taker: rules, contracts; Get.
-/
namespace Go.Proofs.YtnkjdijbfnmnhaaGreat
open Go.RowKit

theorem BoxAt.frozen {w : World} {g : Nat} {cs : Array Value} {t : TypeId} (h : BoxAt w g cs t) (i : Nat) : w.frozen? ⟨g, i, none⟩ = false := by
  unfold BoxAt at h
  simp [World.frozen?, h]

def ruleS (s : RS) : RuM × RS :=
  let a := numS 1000 s
  let b := numS 1000 a.2
  let c := numS 1000 b.2
  let d := numS 1000 c.2
  let e := fmlS d.2
  let f := manyS 8 setS e.2
  let h := manyS 4 emS f.2
  (⟨(a.1 : Int), (b.1 : Int), (c.1 : Int), (d.1 : Int), ⟨none, 0, e.1⟩, ⟨none, 0, f.1⟩, ⟨none, 0, h.1⟩⟩, h.2)
def tabS (s : RS) : (Int × Int × List RuM) × RS :=
  let a := numS 1000 s
  let b := numS 1000 a.2
  let r := manyS 32 ruleS b.2
  (((a.1 : Int), (b.1 : Int), r.1), r.2)
theorem ruleS_ok {s : RS} (h : RSok s) : RSok (ruleS s).2 :=
  manyS_ok (fun _ h => emS_ok h) (manyS_ok (fun _ h => setS_ok h) (fmlS_ok (numS_ok (numS_ok (numS_ok (numS_ok h).1).1).1).1))
theorem tabS_ok {s : RS} (h : RSok s) : RSok (tabS s).2 := manyS_ok (fun _ h => ruleS_ok h) (numS_ok (numS_ok h).1).1

end Go.Proofs.YtnkjdijbfnmnhaaGreat
