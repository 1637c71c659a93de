/-
  Contract of the reference's Fire.
-/
import Derived.Test.YtkjgplcfoihohaaRefT3
import Derived.Test.YtkjgplcfoihohaaFireG
import Derived.Test.YtkjgplcfoihohaaLaw05
namespace Go.Proofs.Ytkjgplcfoihohaa
open Go.RowKit

/-- what the reference's Fire leaves -/
def RefFires (r : Int × List Int × List (Int × Int × Int) × Int) (w : World) (e : Ending) (w' : World) : Prop :=
  ∃ A c A2 c2, e = .returned (.agg #[.int .i64 r.1, .slice A r.2.1.length c, .slice A2 r.2.2.1.length c2, .int .i64 r.2.2.2]) ∧ Sees w' w'.heap.size A (iv r.2.1) ∧ Sees w' w'.heap.size A2 (cv r.2.2.1) ∧ Below w.heap.size w w'
theorem RefFires.none {R : Int × List Int × List (Int × Int × Int) × Int} {e : Int} {w w' : World} (h : R = (0, [], [], e)) (hb : Below w.heap.size w w') : RefFires R w (.returned (.agg #[.int .i64 0, .slice none 0 0, .slice none 0 0, .int .i64 e])) w' := by
  subst h
  exact ⟨_, _, _, _, rfl, Sees.empty _ _ _, Sees.empty _ _ _, hb⟩

/-- what is owned stays so where its block does -/
theorem own_keep {w w' : World} {base : Nat} {e : TypeId} {size n : Nat} {v : Value} {xs : List Value} (h : w.ownsRow base e size v n xs) (hb : ∀ g, v.ownBlock = some g → w'.heap[g]? = w.heap[g]?) : w'.ownsRow base e size v n xs := by
  refine ⟨h.1, ?_⟩
  rcases h.2 with h0 | ⟨g, cap, cur, rfl, h1, hg, h2⟩
  · exact .inl h0
  · exact .inr ⟨g, cap, cur, rfl, h1, (hb g rfl).trans hg, h2⟩
/-- a block of four cells is written over -/
theorem below_set4 {B g : Nat} {a w : World} (h : Below B a w) (hg : B ≤ g) (x0 x1 x2 x3 : Value) : Below B a ((((w.setCell ⟨g, 0, none⟩ x0).setCell ⟨g, 1, none⟩ x1).setCell ⟨g, 2, none⟩ x2).setCell ⟨g, 3, none⟩ x3) :=
  (((h.setCell (p := ⟨g, 0, none⟩) hg x0).setCell (p := ⟨g, 1, none⟩) hg x1).setCell (p := ⟨g, 2, none⟩) hg x2).setCell (p := ⟨g, 3, none⟩) hg x3
theorem BoxAt.free {w : World} {g : Nat} {cs : Array Value} {t : TypeId} (h : BoxAt w g cs t) (i : Nat) : w.frozen? ⟨g, i, none⟩ = false := by
  unfold BoxAt at h
  simp [World.frozen?, h]
theorem BoxAt.set_ {w : World} {g : Nat} {cs : Array Value} {t : TypeId} (h : BoxAt w g cs t) (j : Nat) (u : Value) : BoxAt (w.setCell ⟨g, j, none⟩ u) g (cs.setIfInBounds j u) t := heap_set j u h
theorem BoxAt.other {w : World} {g g' : Nat} {cs : Array Value} {t : TypeId} (h : BoxAt w g cs t) (hne : g ≠ g') (j : Nat) (u : Value) : BoxAt (w.setCell ⟨g', j, none⟩ u) g cs t := (Below.heap_setCell _ _ _ _ (by simpa using hne)).trans h

set_option maxRecDepth 100000 in
set_option maxHeartbeats 3200000 in
theorem refFire_any (st vs : Int) (t : Sl RuM) (sa ac pa : Int) (vars : List Int) (V : Option Addr) (m k : Nat) (arg : Int) (B : Nat) (w : World) (hm : vars.length = m) (hs : rusOk w B t) (hsv : Sees w B V (iv vars)) (hvi : ∀ v ∈ vars, I64 v) (ha : I64 arg) (hB : B ≤ w.heap.size) :
    Calls Try.prog 17 #[tabV st vs t, .int .i64 sa, .int .i64 ac, .int .i64 pa, .slice V m k, .int .i64 arg] w (RefFires (fireR st vs t.l sa ac pa vars arg) w) := by
  obtain ⟨tA, tc, tl⟩ := t
  obtain ⟨n, hn⟩ : ∃ n, tl.length = n := ⟨_, rfl⟩
  have hnm : n ≤ 9223372036854775807 := by have h1 := hs.1; have h2 := hs.2.1; unfold maxLen at h2; simp only [hn] at h1 h2; omega
  have hw1 : Below w.heap.size w ((w.alloc (.cells #[.int .i64 st, .int .i64 vs, .slice tA n tc] 24)).alloc (.cells #[.int .i64 0, .slice none 0 0, .slice none 0 0, .int .i64 0] 47)) := ((Below.refl _ _).alloc (Nat.le_refl _) _).alloc (by simp) _
  have HMY := hide_ (refMayT_any st vs ⟨tA, tc, tl⟩ B _ (rus_stable.below hs (hw1.mono hB)) (Nat.le_trans hB hw1.size))
  have HFI := hide_ (fun (u : World) (hb : Below w.heap.size w u) => refFind_any st vs ⟨tA, tc, tl⟩ sa ac pa vars V m k arg B u hm (rus_stable.below hs (hb.mono hB)) (hsv.below (hb.mono hB)) hvi ha (Nat.le_trans hB hb.size))
  have HX := hide_ ((BoxAt.new w #[.int .i64 st, .int .i64 vs, .slice tA n tc] 24).alloc (.cells #[.int .i64 0, .slice none 0 0, .slice none 0 0, .int .i64 0] 47))
  have HXF := hide_ (show BoxAt ((w.alloc (.cells #[.int .i64 st, .int .i64 vs, .slice tA n tc] 24)).alloc (.cells #[.int .i64 0, .slice none 0 0, .slice none 0 0, .int .i64 0] 47)) (w.heap.size + 1) #[.int .i64 0, .slice none 0 0, .slice none 0 0, .int .i64 0] 47 by
    have := BoxAt.new (w.alloc (.cells #[.int .i64 st, .int .i64 vs, .slice tA n tc] 24)) #[.int .i64 0, .slice none 0 0, .slice none 0 0, .int .i64 0] 47
    simpa using this)
  have HW := hide_ hw1
  have HS := hide_ hs
  have HSV := hide_ hsv
  have HVI := hide_ hvi
  have HA := hide_ ha
  have HM := hide_ hm
  have HN := hide_ hn
  simp only [tabV, Sl.v, hn] at HMY HFI ⊢
  obtain ⟨bm, hbm⟩ : ∃ b, mayT st vs tl = b := ⟨_, rfl⟩
  rw [hbm] at HMY
  have HBM := hide_ hbm
  obtain ⟨RR, hRR⟩ : ∃ R, fireR st vs tl sa ac pa vars arg = R := ⟨_, rfl⟩
  have HRR := hide_ hRR
  rw [hRR]
  obtain ⟨FF, hFF⟩ : ∃ F, findI st vs tl sa ac pa vars arg = F := ⟨_, rfl⟩
  have HFF := hide_ hFF
  simp only [hFF] at HFI
  clear hs hm hsv hvi ha hw1 hn hbm hRR hFF
  go_enter Try.func17, Try.ntmps17
  go_wp2_with fail
  refine HMY.out.mono ?_
  rintro en w1 ⟨rfl, hb⟩
  have HB := hide_ (HW.out.trans (hb.mono (by simp; omega)))
  have HX1 := hide_ (HX.out.below hb)
  have HXF1 := hide_ (HXF.out.below hb)
  have hcx := HX1.out.cell
  have hcf := HXF1.out.cell
  have hff : ∀ i, w1.frozen? ⟨w.heap.size + 1, i, none⟩ = false := fun i => by (have h := HXF1.out; unfold BoxAt at h; simp [World.frozen?, h])
  have hz1 : w.heap.size < w1.heap.size := HX1.out.lt
  have hz2 : w.heap.size + 1 < w1.heap.size := HXF1.out.lt
  clear hb HMY
  cases bm with
  | false =>
    have HR1 := hide_ (show RR = (0, [], [], 10) by
      rw [← HRR.out]
      unfold fireR fireB
      rw [HBM.out]
      simp)
    go_wp2
    exact bodyPost_ret (v := .agg #[.int .i64 0, .slice none 0 0, .slice none 0 0, .int .i64 10]) (by simp [results, Try.results17, go_sem, hcf]) rfl (RefFires.none HR1.out (below_set4 HB.out (by omega) _ _ _ _))
  | true =>
  by_cases h : (m : Int) = vs
  case neg =>
    have HR1 := hide_ (show RR = (0, [], [], 10) by
      rw [← HRR.out]
      unfold fireR fireB
      rw [HM.out, decide_eq_false h]
      simp)
    have hd : ((m : Int) != vs) = true := by simpa using h
    clear h
    go_wp2
    exact bodyPost_ret (v := .agg #[.int .i64 0, .slice none 0 0, .slice none 0 0, .int .i64 10]) (by simp [results, Try.results17, go_sem, hcf]) rfl (RefFires.none HR1.out (below_set4 HB.out (by omega) _ _ _ _))
  have hd : ((m : Int) != vs) = false := by simpa using h
  have hfb : fireB st vs tl vars = true := by
    unfold fireB
    rw [HBM.out, HM.out, decide_eq_true h]
    rfl
  have HFB := hide_ hfb
  have HMV := hide_ h
  clear h hfb
  go_wp2_with fail
  refine (HFI.out _ HB.out).mono ?_
  rintro en w2 ⟨rfl, hb2⟩
  have HB2 := hide_ (HB.out.trans (hb2.mono HB.out.size))
  have HX2 := hide_ (HX1.out.below hb2)
  have HXF2 := hide_ (HXF1.out.below hb2)
  clear hcx hcf hff hz1 hz2 HX1 HXF1 HX HXF HW HFI
  have hcx := HX2.out.cell
  have hcf := HXF2.out.cell
  have hff := HXF2.out.free
  have hz1 : w.heap.size < w2.heap.size := HX2.out.lt
  have hz2 : w.heap.size + 1 < w2.heap.size := HXF2.out.lt
  clear hb2
  cases hi : idxO (takX sa ac pa vars arg tl) tl.length with
  | none =>
    have HT := hide_ (show FF = -1 by rw [← HFF.out]; unfold findI; rw [if_pos HFB.out]; unfold takI idxI; rw [hi])
    have HR1 := hide_ (show RR = (0, [], [], 13) by
      rw [← HRR.out]
      unfold fireR
      rw [if_pos HFB.out, hi])
    clear hi
    have hdf : decide (FF < 0) = true := by rw [HT.out]; rfl
    go_wp2
    exact bodyPost_ret (v := .agg #[.int .i64 0, .slice none 0 0, .slice none 0 0, .int .i64 13]) (by simp [results, Try.results17, go_sem, hcf]) rfl (RefFires.none HR1.out (below_set4 HB2.out (by omega) _ _ _ _))
  | some j =>
    obtain ⟨hj1, _, _⟩ := idx_some hi
    obtain ⟨x, hx⟩ : ∃ x, tl[j]? = some x := ⟨_, List.getElem?_eq_getElem hj1⟩
    have HT := hide_ (show FF = j by rw [← HFF.out]; unfold findI; rw [if_pos HFB.out]; unfold takI idxI; rw [hi])
    have hjn : j < n := by rw [← HN.out]; exact hj1
    have HI := hide_ hi
    have hrule := ruB_parts (mayT_rule HBM.out hx)
    obtain ⟨-, -, -, -, -, hrs, hre⟩ := hrule
    have hs1 := rus_stable.below HS.out (HB2.out.mono hB)
    obtain ⟨tb, ot, hAe, hab, f0, f1, f2, f3, f4, f5, f6⟩ := hs1.2.2.1.ru hx
    have hwz : tb < w2.heap.size := by omega
    have hxo := HS.out.2.2.2 x (List.mem_of_getElem? hx)
    obtain ⟨-, -, hxs, hxe⟩ := hxo
    have HRR2 := hide_ (show RR = fireOut x.tt (setAllR x.se.l vars arg) (emAllR x.em.l vars arg) by
      rw [← HRR.out]
      unfold fireR
      rw [if_pos HFB.out, hi]
      simp only [hx])
    obtain ⟨fr, xc, xp, tt, ⟨gA, gc, gl⟩, ⟨sA, sc, sl⟩, ⟨eA, ec, el⟩⟩ := x
    simp only at f0 f1 f2 f3 f4 f5 f6 hrs hre hxs hxe HRR2
    generalize gl.length = gn at f4
    obtain ⟨sn, hsn⟩ : ∃ n, sl.length = n := ⟨_, rfl⟩
    obtain ⟨ee, hen⟩ : ∃ n, el.length = n := ⟨_, rfl⟩
    rw [hsn] at f5
    rw [hen] at f6
    have HSN := hide_ hsn
    have HEN := hide_ hen
    have HRS := hide_ hrs
    have HRE := hide_ hre
    have HXS := hide_ hxs
    have HXE := hide_ hxe
    have hs8 : sn ≤ 8 := by rw [← hsn]; exact setsB_len hrs
    have he4 : ee ≤ 4 := by rw [← hen]; exact emsB_len hre
    have hm8 : m ≤ 8 := by have := (mayT_num HBM.out).2.1; have := HMV.out; omega
    subst hAe
    obtain rfl : FF = (j : Int) := HT.out
    have hBR := BoxAt.new w2 #[.int .i64 fr, .int .i64 xc, .int .i64 xp, .int .i64 tt, .slice gA gn gc, .slice sA sn sc, .slice eA ee ec] 40
    have HXR3 := hide_ (hBR.alloc (.cells #[.int .i64 tt, .slice none 0 0, .slice none 0 0, .int .i64 0] 47))
    have HXG3 := hide_ (show BoxAt ((w2.alloc (.cells #[.int .i64 fr, .int .i64 xc, .int .i64 xp, .int .i64 tt, .slice gA gn gc, .slice sA sn sc, .slice eA ee ec] 40)).alloc (.cells #[.int .i64 tt, .slice none 0 0, .slice none 0 0, .int .i64 0] 47)) (w2.heap.size + 1) #[.int .i64 tt, .slice none 0 0, .slice none 0 0, .int .i64 0] 47 by
      have := BoxAt.new (w2.alloc (.cells #[.int .i64 fr, .int .i64 xc, .int .i64 xp, .int .i64 tt, .slice gA gn gc, .slice sA sn sc, .slice eA ee ec] 40)) #[.int .i64 tt, .slice none 0 0, .slice none 0 0, .int .i64 0] 47
      simpa using this)
    have HXF3 := hide_ ((HXF2.out.alloc (.cells #[.int .i64 fr, .int .i64 xc, .int .i64 xp, .int .i64 tt, .slice gA gn gc, .slice sA sn sc, .slice eA ee ec] 40)).alloc (.cells #[.int .i64 tt, .slice none 0 0, .slice none 0 0, .int .i64 0] 47))
    have HB3 := hide_ ((HB2.out.alloc HB2.out.size (.cells #[.int .i64 fr, .int .i64 xc, .int .i64 xp, .int .i64 tt, .slice gA gn gc, .slice sA sn sc, .slice eA ee ec] 40)).alloc (by simp; omega) (.cells #[.int .i64 tt, .slice none 0 0, .slice none 0 0, .int .i64 0] 47))
    clear hi hx hrs hre hxs hxe hsn hen hs1 hBR hj1 HRR
    go_wp2
    clear hcx hcf hff f0 f1 f2 f3 f4 f5 f6
    go_loopw [56] (fun i wr => ∃ (v : Nat) (A1 : Option Addr) (c1 : Nat), v ≤ m ∧ i = .int .i64 v ∧ Hid (∀ (y : Nat) (s : SetM), sl[y]? = some s → s.var < (v : Int) → (evalR s.val.l vars arg).2 = 0) ∧ Hid (BoxAt wr w2.heap.size #[.int .i64 fr, .int .i64 xc, .int .i64 xp, .int .i64 tt, .slice gA gn gc, .slice sA sn sc, .slice eA ee ec] 40) ∧ Hid (BoxAt wr (w.heap.size + 1) #[.int .i64 0, .slice none 0 0, .slice none 0 0, .int .i64 0] 47) ∧
      Hid (BoxAt wr (w2.heap.size + 1) #[.int .i64 tt, .slice A1 v c1, .slice none 0 0, .int .i64 0] 47) ∧ Hid (wr.ownsRow (w2.heap.size + 2) 2 1 (.slice A1 v c1) v (iv ((List.range v).map fun u => pick sl vars arg u sn))) ∧ Below w.heap.size w wr) (fun i _ => m - (intOf i).toNat)
    case atStart => exact ⟨0, none, 0, Nat.zero_le _, rfl, (fun y s hy hlt => absurd hlt (by have := (setsB_var HRS.out hy).1; omega)), HXR3.out, HXF3.out, HXG3.out, World.ownsRow_nil _ _ _ _, HB3.out⟩
    case round =>
      obtain ⟨v, A1, c1, hv, rfl, HJ, HXR, HXF, HXG, HO, hb⟩ := hrel
      have hzw : w2.heap.size + 1 < wr.heap.size := HXG.out.lt
      have hzr : w.heap.size ≤ wr.heap.size := hb.size
      have HB0 := hide_ hb
      have hcr := HXR.out.cell
      by_cases hlt : v < m
      · obtain ⟨vb, vo, hVe, hvb, hvc⟩ := (HSV.out.below (hb.mono hB)).int (k := v) (by rw [HM.out]; exact hlt)
        have hvw : vb < wr.heap.size := by omega
        rw [show vars.getD v 0 = pick sl vars arg v 0 from rfl] at hvc
        subst hVe
        clear hb
        go_wp2
        clear hvc hcr
        go_loopw [17, 66] (fun nv i wq => ∃ y : Nat, y ≤ sn ∧ i = .int .i64 y ∧ nv = .int .i64 (pick sl vars arg v y) ∧ Hid (∀ (z : Nat) (s : SetM), z < y → sl[z]? = some s → s.var = (v : Int) → (evalR s.val.l vars arg).2 = 0) ∧ Below wr.heap.size wr wq) (fun _ i _ => sn - (intOf i).toNat)
        case atStart => exact ⟨0, Nat.zero_le _, rfl, rfl, (fun z s hz => absurd hz (by omega)), Below.refl _ _⟩
        case round =>
          obtain ⟨y, hy, rfl, rfl, HK, hbq⟩ := hrel
          have hzq := hbq.size
          have HXR' := hide_ (HXR.out.below hbq)
          have HXF' := hide_ (HXF.out.below hbq)
          have HXG' := hide_ (HXG.out.below hbq)
          have HO' := hide_ (own_below HO.out hbq)
          have HBQ := hide_ (HB0.out.trans (hbq.mono hzr))
          have HBQ0 := hide_ hbq
          have hcr := HXR'.out.cell
          clear hbq
          by_cases hly : y < sn
          · obtain ⟨x, hx⟩ : ∃ x, sl[y]? = some x := ⟨_, List.getElem?_eq_getElem (by rw [HSN.out]; exact hly)⟩
            have hs1 := sets_stable.below HXS.out (HBQ.out.mono hB)
            obtain ⟨tb2, ot2, hAe2, hab2, g0, g1⟩ := hs1.2.2.1.set hx
            have hwz2 : tb2 < wr.heap.size := by omega
            have hxo := hs1.2.2.2 x (List.mem_of_getElem? hx)
            have hmayx := (setsB_at HRS.out hx).2
            have HX0 := hide_ hx
            obtain ⟨vr, ⟨vA, vc, vl⟩⟩ := x
            simp only at g0 g1 hmayx
            obtain ⟨vn, hvn⟩ : ∃ n, vl.length = n := ⟨_, rfl⟩
            rw [hvn] at g1
            have HVN := hide_ hvn
            have HVO := hide_ hxo.2
            have HMX := hide_ hmayx
            have HSV1 := hide_ (HSV.out.below (HBQ.out.mono hB))
            subst hAe2
            clear hs1 hx hxo hmayx hvn
            by_cases e : vr = (v : Int)
            · have HVR := hide_ e
              have hde : (vr == (v : Int)) = true := by simp [e]
              obtain ⟨⟨qx, qe⟩, hq⟩ : ∃ q, evalR vl vars arg = q := ⟨_, rfl⟩
              have HQ := hide_ hq
              clear e hq
              go_wp2_with fail
              refine (refEval_any vl vars arg B vA _ vn vc m k _ HVN.out (HVN.out ▸ toks_n63 HVO.out) HM.out HVO.out.2.2.1 HSV1.out (by omega) HVO.out.2.2.2 HVI.out HA.out).mono ?_
              rw [HQ.out]
              rintro en w5 ⟨rfl, hb5⟩
              have HB5 := hide_ (HBQ.out.trans (hb5.mono (by omega)))
              have HXF5 := hide_ (HXF'.out.below hb5)
              have HB50 := hide_ (HBQ0.out.trans (hb5.mono hzq))
              clear hb5 hcr g0 g1
              by_cases hqe : qe = 0
              · subst hqe
                have HP := hide_ (show pick sl vars arg v (y + 1) = qx by rw [pick_hit HX0.out HVR.out, HQ.out])
                have HK2 := hide_ (show ∀ (z : Nat) (s : SetM), z < y + 1 → sl[z]? = some s → s.var = (v : Int) → (evalR s.val.l vars arg).2 = 0 from fun z s hz hs hvs => by
                  by_cases ez : z = y
                  · subst ez
                    obtain rfl := Option.some.inj (hs.symm.trans HX0.out)
                    simp only [HQ.out]
                  · exact HK.out z s (by omega) hs hvs)
                go_wp2
                go_roundw
                case rel => exact ⟨y + 1, by omega, by go_num, by rw [HP.out], HK2, HB50.out⟩
                case measure => simp [intOf]; omega
              · have HE18 := hide_ (show qe = 18 by
                  have h1 := evalR_err (l := vl) (vars := vars) (arg := arg) (by rw [HM.out, HMV.out]; exact HMX.out) (by rw [HQ.out]; exact hqe)
                  rw [HQ.out] at h1
                  exact h1)
                have HR1 := hide_ (show RR = (0, [], [], qe) by
                  rw [HRR2.out, HE18.out]
                  unfold setAllR
                  rw [setRun_bad HX0.out (by simp only [HQ.out]; exact hqe) (by rw [HSN.out]; omega), fireOut_no1])
                have hdq : (qe != 0) = true := by simpa using hqe
                have hcf := HXF5.out.cell
                have hff := HXF5.out.free
                have hz5 : w.heap.size + 1 < w5.heap.size := HXF5.out.lt
                clear hqe
                go_wp2
                exact bodyPost_ret (v := .agg #[.int .i64 0, .slice none 0 0, .slice none 0 0, .int .i64 qe]) (by simp [results, Try.results17, go_sem, hcf]) rfl (RefFires.none HR1.out (below_set4 HB5.out (by omega) _ _ _ _))
            · have HP := hide_ (show pick sl vars arg v (y + 1) = pick sl vars arg v y from pick_miss HX0.out e)
              have HK2 := hide_ (show ∀ (z : Nat) (s : SetM), z < y + 1 → sl[z]? = some s → s.var = (v : Int) → (evalR s.val.l vars arg).2 = 0 from fun z s hz hs hvs => by
                by_cases ez : z = y
                · subst ez
                  obtain rfl := Option.some.inj (hs.symm.trans HX0.out)
                  exact absurd hvs e
                · exact HK.out z s (by omega) hs hvs)
              have hde : (vr == (v : Int)) = false := beq_eq_false_iff_ne.2 e
              clear e
              go_wp2
              go_roundw
              case rel => exact ⟨y + 1, by omega, by go_num, by rw [HP.out], HK2, HBQ0.out⟩
              case measure => simp [intOf]; omega
          · obtain rfl : y = sn := by omega
            have HX7 := hide_ (HXG'.out.alloc (.cells #[.int .i64 (pick sl vars arg v y)] 2))
            have HOA := hide_ (HO'.out.alloc (.cells #[.int .i64 (pick sl vars arg v y)] 2))
            have HSE := hide_ (sees_box wr #[.int .i64 (pick sl vars arg v y)] 2 (iv [pick sl vars arg v y]) rfl)
            have HYS := hide_ (show iv ((List.range v).map fun u => pick sl vars arg u y) ++ iv [pick sl vars arg v y] = iv ((List.range (v + 1)).map fun u => pick sl vars arg u y) by rw [range_snoc, iv_append])
            have HJ2 := hide_ (show ∀ (z : Nat) (s : SetM), sl[z]? = some s → s.var < ((v + 1 : Nat) : Int) → (evalR s.val.l vars arg).2 = 0 from fun z s hs hlt2 => by
              by_cases e : s.var < (v : Int)
              · exact HJ.out z s hs e
              · exact HK.out z s (by have := (List.getElem?_eq_some_iff.1 hs).1; have := HSN.out; omega) hs (by omega))
            have hcg := HXG'.out.cell
            have hzg : w2.heap.size + 1 < wr.heap.size := HXG'.out.lt
            clear hcr
            go_wp2_with (at_builtin; refine wpList_append_cells _ rfl _ _ 41 rfl (w2.heap.size + 2) 2 (.int .i64 0) 1 8 i64_info rfl (by omega) Try.underlying41 _ v _ rfl HOA.out (wr.heap.size + 1) (some ⟨wr.heap.size, 0, none⟩) 1 1 (iv [pick sl vars arg v y]) rfl rfl HSE.out (iv_one _) (by omega) (by omega) (by simp; omega) (v + 1) rfl _ HYS.out ?_; intro A4 c4 w6 hown hb6; (have HO6 := hide_ hown); (have HB6 := hide_ hb6); (have HX6 := hide_ (show BoxAt w6 (w2.heap.size + 1) #[.int .i64 tt, .slice A1 v c1, .slice none 0 0, .int .i64 0] 47 from (hb6.block _ (by omega)).trans HX7.out)); (have hcg6 := HX6.out.cell); (have hfg6 := HX6.out.free); (have hz6 : w2.heap.size + 1 < w6.heap.size := HX6.out.lt); clear hown hb6)
            go_roundw
            case rel => exact ⟨v + 1, A4, c4, by omega, by go_num, HJ2, hide_ ((show BoxAt w6 w2.heap.size #[.int .i64 fr, .int .i64 xc, .int .i64 xp, .int .i64 tt, .slice gA gn gc, .slice sA y sc, .slice eA ee ec] 40 from (HB6.out.block _ (by omega)).trans (HXR'.out.alloc _)).other (by omega) _ _), hide_ ((show BoxAt w6 (w.heap.size + 1) #[.int .i64 0, .slice none 0 0, .slice none 0 0, .int .i64 0] 47 from (HB6.out.block _ (by omega)).trans (HXF'.out.alloc _)).other (by omega) _ _), hide_ (HX6.out.set_ 1 _), hide_ (ownsRow_setCell_below HO6.out (a := ⟨w2.heap.size + 1, 1, none⟩) (by simp) _), ((HBQ.out.alloc (by omega) _).trans (HB6.out.mono (by omega))).setCell (p := ⟨w2.heap.size + 1, 1, none⟩) (by simp; omega) _⟩
            case measure => simp [intOf]; omega
      · obtain rfl : v = m := by omega
        have hall : ∀ (k : Nat) (s : SetM), sl[k]? = some s → (evalR s.val.l vars arg).2 = 0 := fun k s hs => HJ.out k s hs (by have := (setsB_var HRS.out hs).2; have := HMV.out; omega)
        obtain ⟨cur0, hc0⟩ : ∃ c, ((List.range v).map fun u => pick sl vars arg u sn) = c := ⟨_, rfl⟩
        have HSET := hide_ (show setAllR sl vars arg = some cur0 by
          rw [setAll_good HM.out (fun k s hs => (setsB_var HRS.out hs).1) hall, ← hc0, HSN.out])
        have HL0 := hide_ (show cur0.length = v by rw [← hc0]; simp)
        rw [hc0] at HO
        have HRR3 := hide_ (show RR = fireOut tt (some cur0) (emRun el vars arg ee) by
          rw [HRR2.out, HSET.out]
          unfold emAllR
          rw [HEN.out])
        have HBLK := hide_ (fun g hg => (HO.out.lt g hg).2)
        obtain ⟨WZ, hWZ⟩ : ∃ z, wr.heap.size = z := ⟨_, rfl⟩
        have hwz1 : w2.heap.size + 1 < WZ := by omega
        have HWZ := hide_ hWZ
        simp only [hWZ] at HBLK
        have hoc0 : wr.ownsRow WZ 71 4 (.slice none 0 0) 0 (cv []) := World.ownsRow_nil _ _ _ _
        have HOC0 := hide_ hoc0
        clear hall hc0 hb HJ HRR2 hWZ hoc0
        go_wp2
        clear hcr
        go_loopw [105] (fun i wq => ∃ (j2 : Nat) (A2 : Option Addr) (c2 : Nat) (cur : List (Int × Int × Int)), j2 ≤ ee ∧ i = .int .i64 j2 ∧ Hid (emRun el vars arg j2 = some cur) ∧ Hid (BoxAt wq w2.heap.size #[.int .i64 fr, .int .i64 xc, .int .i64 xp, .int .i64 tt, .slice gA gn gc, .slice sA sn sc, .slice eA ee ec] 40) ∧ Hid (BoxAt wq (w.heap.size + 1) #[.int .i64 0, .slice none 0 0, .slice none 0 0, .int .i64 0] 47) ∧
          Hid (BoxAt wq (w2.heap.size + 1) #[.int .i64 tt, .slice A1 v c1, .slice A2 j2 c2, .int .i64 0] 47) ∧ Hid (wq.ownsRow (w2.heap.size + 2) 2 1 (.slice A1 v c1) v (iv cur0)) ∧ Hid (wq.ownsRow WZ 71 4 (.slice A2 j2 c2) j2 (cv cur)) ∧ WZ ≤ wq.heap.size ∧ Below w.heap.size w wq) (fun i _ => ee - (intOf i).toNat)
        case atStart => exact ⟨0, none, 0, [], Nat.zero_le _, rfl, (rfl : _ = _), HXR.out, HXF.out, HXG.out, HO.out, HOC0.out, Nat.le_of_eq HWZ.out.symm, HB0.out⟩
        case round =>
          clear HXR HXF HXG HO HB0 HOC0 HWZ hzw hzr
          obtain ⟨j2, A2, c2, cur, hj2, rfl, HK, HXR, HXF, HXG, HO, HOC, hzz, hb⟩ := hrel
          have HB0 := hide_ hb
          have hcr := HXR.out.cell
          have hzr : w.heap.size ≤ wr.heap.size := hb.size
          have hzr1 : w2.heap.size < wr.heap.size := HXR.out.lt
          clear hb
          by_cases hlt2 : j2 < ee
          · obtain ⟨x, hx⟩ : ∃ x, el[j2]? = some x := ⟨_, List.getElem?_eq_getElem (by rw [HEN.out]; exact hlt2)⟩
            have hs1 := ems_stable.below HXE.out (HB0.out.mono hB)
            obtain ⟨tb2, ot2, hAe2, hab2, g0, g1, g2⟩ := hs1.2.2.1.em hx
            have hwz2 : tb2 < wr.heap.size := by omega
            have hxo := hs1.2.2.2 x (List.mem_of_getElem? hx)
            have hmayx := (emsB_at HRE.out hx).2.2
            have HX0 := hide_ hx
            obtain ⟨tg, xa, ⟨vA, vc, vl⟩⟩ := x
            simp only at g0 g1 g2 hmayx
            obtain ⟨vn, hvn⟩ : ∃ n, vl.length = n := ⟨_, rfl⟩
            rw [hvn] at g2
            have HVN := hide_ hvn
            have hwb := (Below.refl wr.heap.size wr).alloc (Nat.le_refl _) (.cells #[.int .u8 tg, .int .i64 xa, .slice vA vn vc] 79)
            have HWB := hide_ hwb
            have HVO := hide_ (toks_stable.below hxo.2.2 (hwb.mono (by omega)))
            have HMX := hide_ hmayx
            have HSV1 := hide_ ((HSV.out.below (HB0.out.mono hB)).below (hwb.mono (by omega)))
            obtain ⟨⟨qx, qe⟩, hq⟩ : ∃ q, evalR vl vars arg = q := ⟨_, rfl⟩
            have HQ := hide_ hq
            subst hAe2
            clear hs1 hx hxo hmayx hvn hwb hq
            go_wp2_with fail
            refine (refEval_any vl vars arg B vA _ vn vc v k _ HVN.out (HVN.out ▸ toks_n63 HVO.out) HM.out HVO.out.2.2.1 HSV1.out (by simp; omega) HVO.out.2.2.2 HVI.out HA.out).mono ?_
            rw [HQ.out]
            rintro en w5 ⟨rfl, hb5⟩
            have HE5 := hide_ ((BoxAt.new wr #[.int .u8 tg, .int .i64 xa, .slice vA vn vc] 79).below hb5)
            have HB50 := hide_ (HWB.out.trans (hb5.mono (by simp)))
            have HB5 := hide_ (HB0.out.trans (HB50.out.mono hzr))
            have HXF5 := hide_ (HXF.out.below HB50.out)
            have HXR5 := hide_ (HXR.out.below HB50.out)
            have HXG5 := hide_ (HXG.out.below HB50.out)
            have HO5 := hide_ (own_below HO.out HB50.out)
            have HOC5 := hide_ (own_below HOC.out HB50.out)
            have hz5 : wr.heap.size < w5.heap.size := by have := hb5.size; simp at this; omega
            clear hb5 hcr g0 g1 g2
            by_cases hqe : qe = 0
            · subst hqe
              have HJ2 := hide_ (emRun_yes HK.out HX0.out HQ.out)
              have HX7 := hide_ (HXG5.out.alloc (.cells #[.int .u64 0, .int .u8 tg, .int .i64 xa, .int .i64 qx] 71))
              have HOA := hide_ (HOC5.out.alloc (.cells #[.int .u64 0, .int .u8 tg, .int .i64 xa, .int .i64 qx] 71))
              have HSE := hide_ (sees_box w5 #[.int .u64 0, .int .u8 tg, .int .i64 xa, .int .i64 qx] 71 (cv [(tg, xa, qx)]) rfl)
              have H1C := hide_ (show ∀ u ∈ cv [(tg, xa, qx)], u.oneCell' = true by intro u hu; simp [cv, cellC] at hu; rcases hu with rfl | rfl | rfl | rfl <;> rfl)
              have HCV := hide_ (cv_append cur [(tg, xa, qx)])
              have hce := HE5.out.cell
              have hcg := HXG5.out.cell
              have hzg : w2.heap.size + 1 < w5.heap.size := HXG5.out.lt
              go_wp2_with (at_builtin; refine wpList_append_cells _ rfl _ _ 42 rfl WZ 71 _ 4 32 cell_info rfl (by omega) Try.underlying42 _ j2 (cv cur) rfl HOA.out (w5.heap.size + 1) (some ⟨w5.heap.size, 0, none⟩) 1 1 (cv [(tg, xa, qx)]) rfl rfl HSE.out H1C.out (by omega) (by omega) (by simp; omega) (j2 + 1) rfl (cv (cur ++ [(tg, xa, qx)])) HCV.out.symm ?_; intro A4 c4 w6 hown hb6; (have HO6 := hide_ hown); (have HB6 := hide_ hb6); (have HX6 := hide_ (show BoxAt w6 (w2.heap.size + 1) #[.int .i64 tt, .slice A1 v c1, .slice A2 j2 c2, .int .i64 0] 47 from (hb6.block _ (by omega)).trans HX7.out)); (have hcg6 := HX6.out.cell); (have hfg6 := HX6.out.free); (have hz6 : w2.heap.size + 1 < w6.heap.size := HX6.out.lt); clear hown hb6)
              have HV6 := hide_ (own_keep (HO5.out.alloc (.cells #[.int .u64 0, .int .u8 tg, .int .i64 xa, .int .i64 qx] 71)) (fun g hg => HB6.out.block g (HBLK.out g hg)))
              go_roundw
              case rel => exact ⟨j2 + 1, A4, c4, _, by omega, by go_num, HJ2, hide_ ((show BoxAt w6 w2.heap.size _ _ from (HB6.out.block w2.heap.size (by omega)).trans (HXR5.out.alloc _)).other (by omega) _ _), hide_ ((show BoxAt w6 (w.heap.size + 1) #[.int .i64 0, .slice none 0 0, .slice none 0 0, .int .i64 0] 47 from (HB6.out.block _ (by omega)).trans (HXF5.out.alloc _)).other (by omega) _ _), hide_ (HX6.out.set_ 2 _), hide_ (ownsRow_setCell_below HV6.out (a := ⟨w2.heap.size + 1, 2, none⟩) (by simp) _), hide_ (ownsRow_setCell_below HO6.out (a := ⟨w2.heap.size + 1, 2, none⟩) (by simp; omega) _), by have := HB6.out.size; simp [World.setCell] at this ⊢; omega, ((HB5.out.alloc (by omega) _).trans (HB6.out.mono (by omega))).setCell (p := ⟨w2.heap.size + 1, 2, none⟩) (by simp; omega) _⟩
              case measure => simp [intOf]; omega
            · have HE18 := hide_ (show qe = 18 by
                have h1 := evalR_err (l := vl) (vars := vars) (arg := arg) (by rw [HM.out, HMV.out]; exact HMX.out) (by rw [HQ.out]; exact hqe)
                rw [HQ.out] at h1
                exact h1)
              have HR1 := hide_ (show RR = (0, [], [], qe) by
                rw [HRR3.out, HE18.out, emRun_bad HX0.out (by simp only [HQ.out]; exact hqe) (by omega), fireOut_no2])
              have hdq : (qe != 0) = true := by simpa using hqe
              have hcf := HXF5.out.cell
              have hff := HXF5.out.free
              have hzf : w.heap.size + 1 < w5.heap.size := HXF5.out.lt
              clear hqe
              go_wp2
              exact bodyPost_ret (v := .agg #[.int .i64 0, .slice none 0 0, .slice none 0 0, .int .i64 qe]) (by simp [results, Try.results17, go_sem, hcf]) rfl (RefFires.none HR1.out (below_set4 HB5.out (by omega) _ _ _ _))
          · obtain rfl : j2 = ee := by omega
            have HCL := hide_ (emRun_len HK.out)
            have HRF := hide_ (show RR = (tt, cur0, cur, 0) by rw [HRR3.out, HK.out, fireOut_yes])
            have hcg := HXG.out.cell
            have hzg : w2.heap.size + 1 < wr.heap.size := HXG.out.lt
            have hcf := HXF.out.cell
            have hff := HXF.out.free
            have hzf : w.heap.size + 1 < wr.heap.size := HXF.out.lt
            go_wp2
            refine bodyPost_ret (v := .agg #[.int .i64 tt, .slice A1 v c1, .slice A2 j2 c2, .int .i64 0]) (by simp [results, Try.results17, go_sem, hcf]) rfl ?_
            rw [HRF.out]
            refine ⟨A1, c1, A2, c2, by simp only [HL0.out, HCL.out], ?_, ?_, below_set4 HB0.out (by omega) _ _ _ _⟩
            · have h4 := ownsRow_setCell_below (ownsRow_setCell_below (ownsRow_setCell_below (ownsRow_setCell_below HO.out (a := ⟨w.heap.size + 1, 0, none⟩) (by simp; omega) (.int .i64 tt)) (a := ⟨w.heap.size + 1, 1, none⟩) (by simp; omega) (.slice A1 v c1)) (a := ⟨w.heap.size + 1, 2, none⟩) (by simp; omega) (.slice A2 j2 c2)) (a := ⟨w.heap.size + 1, 3, none⟩) (by simp; omega) (.int .i64 0)
              exact Sees.ownRow h4
            · have h4 := ownsRow_setCell_below (ownsRow_setCell_below (ownsRow_setCell_below (ownsRow_setCell_below HOC.out (a := ⟨w.heap.size + 1, 0, none⟩) (by simp; omega) (.int .i64 tt)) (a := ⟨w.heap.size + 1, 1, none⟩) (by simp; omega) (.slice A1 v c1)) (a := ⟨w.heap.size + 1, 2, none⟩) (by simp; omega) (.slice A2 j2 c2)) (a := ⟨w.heap.size + 1, 3, none⟩) (by simp; omega) (.int .i64 0)
              exact Sees.ownRow h4
end Go.Proofs.Ytkjgplcfoihohaa
