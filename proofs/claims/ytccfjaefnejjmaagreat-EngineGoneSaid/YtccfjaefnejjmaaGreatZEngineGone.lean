/-
  scrutineerlaw07.EngineGone answers true for every input and leaves its input as it was; no condition.
-/
import Derived.Test.YtccfjaefnejjmaaGreatJ49
namespace Go.Proofs.YtccfjaefnejjmaaGreat
open Go.RowKit

theorem again_none {l : List DoneP} {o : OpM} (h : ∀ e ∈ l, e.1 = o.cl → ¬ o.sq ≤ e.2.1) : againG l o = none := by
  unfold againG
  rw [idx_none fun j hj => ?_]
  unfold againK againX
  rw [List.getElem?_eq_getElem hj]
  simp only
  by_cases h1 : (l[j]).1 = o.cl
  · have := h _ (List.getElem_mem hj) h1
    simp [this]
  · simp [h1]
theorem again_from {l : List DoneP} {o : OpM} {p : RepP} (h : againG l o = some p) : ∃ d ∈ l, d.1 = o.cl ∧ o.sq ≤ d.2.1 ∧ p = if o.sq < d.2.1 then (15, 0, 0, []) else d.2.2 := by
  unfold againG at h
  cases hi : idxO (againK o l) l.length with
  | none => rw [hi] at h; cases h
  | some k =>
    rw [hi] at h
    obtain ⟨hk, hp, -⟩ := idx_some hi
    simp only [List.getElem?_eq_getElem hk] at h
    unfold againK againX at hp
    rw [List.getElem?_eq_getElem hk] at hp
    simp only [Bool.and_eq_true, decide_eq_true_eq] at hp
    injection h with h
    exact ⟨_, List.getElem_mem hk, hp.1, hp.2, h.symm⟩
theorem one_entry {r : RegP} (h : mayG r = true) {d e : DoneP} (hd : d ∈ r.dn) (he : e ∈ r.dn) (hk : d.1 = e.1) : d = e := by
  have hr := Ris.of (mayG_ris h).1
  obtain ⟨i, hi, rfl⟩ := List.getElem_of_mem hd
  obtain ⟨j, hj, rfl⟩ := List.getElem_of_mem he
  have hp := List.pairwise_iff_getElem.1 hr
  rcases Nat.lt_trichotomy i j with h1 | h1 | h1
  · have h2 : (r.dn[i]).1 < (r.dn[j]).1 := hp i j hi hj h1
    omega
  · subst h1; rfl
  · have h2 : (r.dn[j]).1 < (r.dn[i]).1 := hp j i hj hi h1
    omega
theorem gone_math {ts tv : Int} {tl : List RuM} {r : RegP} {o o2 : OpM} {cn cn2 : Int} (h : rightB ts tv tl r o cn = true) (hk : o.ki = 4) (hr : r.ki = 1) (hou : r.ou = []) (h1 : o2.ki = 1) (h2 : o2.cl = o.cl) (h3 : o2.sq = o.sq + 1) :
    (applyG ts tv tl r o cn).2.1 = 15 ∨ ((applyG ts tv tl r o cn).2.1 = 0 ∧ (applyG ts tv tl r o cn).1.ki = 1) ∨
    ((applyG ts tv tl r o cn).2.1 ≠ 0 ∧ (applyG ts tv tl r o cn).2.1 ≠ 15 ∧ (applyG ts tv tl (applyG ts tv tl r o cn).1 o2 cn2).2.2.1 = 0) ∨
    ((applyG ts tv tl r o cn).2.1 = 0 ∧ (applyG ts tv tl r o cn).1.ki ≠ 1 ∧ (applyG ts tv tl (applyG ts tv tl r o cn).1 o2 cn2).1.ki = 1 ∧ (applyG ts tv tl (applyG ts tv tl r o cn).1 o2 cn2).1.inc = cn2 ∧ (applyG ts tv tl (applyG ts tv tl r o cn).1 o2 cn2).2.2.1 = cn2 ∧
      (applyG ts tv tl (applyG ts tv tl r o cn).1 o2 cn2).1.ou = [] ∧ (applyG ts tv tl (applyG ts tv tl r o cn).1 o2 cn2).1.la = 0 ∧ (applyG ts tv tl (applyG ts tv tl r o cn).1 o2 cn2).1.ma = r.ma) := by
  obtain ⟨hm, hmo, hmt, hcn⟩ := rightB_lens h
  have hc : o.cl ≠ 0 := by
    unfold mayO at hmo
    simp only [Bool.and_eq_true] at hmo
    have h4 := hmo.2.2.2.2.2.2
    unfold mayKindB at h4
    rw [if_neg (by omega), if_neg (by omega), if_pos hk] at h4
    simpa using h4
  cases ha : againG r.dn o with
  | some p =>
    have e1 : applyG ts tv tl r o cn = (r, p) := by unfold applyG; rw [ha]; rfl
    rw [e1]
    simp only
    obtain ⟨d, hd, hd1, hd2, hp⟩ := again_from ha
    by_cases h15 : p.1 = 15
    · exact .inl h15
    by_cases h0 : p.1 = 0
    · exact .inr (.inl ⟨h0, hr⟩)
    refine .inr (.inr (.inl ⟨h0, h15, ?_⟩))
    have hsq : ¬ o.sq < d.2.1 := fun hlt => h15 (by rw [hp, if_pos hlt])
    have hb : againG r.dn o2 = none := again_none fun e he hek => by
      have : d = e := one_entry hm hd he (by rw [hd1, hek, h2])
      rw [← this, h3]
      omega
    have hdo : doG ts tv tl r o2 cn2 = (r, 12) := by
      unfold doG
      rw [if_pos h1]
      unfold createG
      rw [if_pos hr]
    unfold applyG
    rw [hb, hdo]
    rfl
  | none =>
    have hdo : doG ts tv tl r o cn = (⟨2, r.inc, 0, [], r.dn, [], 0, r.ma⟩, 0) := by
      unfold doG
      rw [if_neg (by omega), if_neg (by omega), if_neg (by omega), if_pos hk]
      unfold removeG
      rw [if_pos hr, if_pos (by rw [hou]; rfl)]
    have e1 : applyG ts tv tl r o cn = (⟨2, r.inc, 0, [], putL (·.1) r.dn (o.cl, o.sq, (0, 0, 0, [])), [], 0, r.ma⟩, (0, 0, 0, [])) := by
      unfold applyG
      rw [ha, hdo]
      unfold pickG noteG
      simp only
      rw [if_neg hc, if_neg (by simp)]
      rfl
    rw [e1]
    simp only
    refine .inr (.inr (.inr ⟨by first | trivial | rfl, by simp, ?_⟩))
    have hb : againG (putL (·.1) r.dn (o.cl, o.sq, (0, 0, 0, []))) o2 = none := again_none fun e he hek => by
      rw [h2] at hek
      unfold putL at he
      rcases List.mem_append.1 he with he | he
      · have := (List.mem_filter.1 he).2
        simp only [decide_eq_true_eq] at this
        omega
      · rcases List.mem_cons.1 he with rfl | he
        · simp only
          omega
        · have := (List.mem_filter.1 he).2
          simp only [decide_eq_true_eq] at this
          omega
    have := apply_makes (ts := ts) (tv := tv) (tl := tl) (r := ⟨2, r.inc, 0, [], putL (·.1) r.dn (o.cl, o.sq, (0, 0, 0, [])), [], 0, r.ma⟩) (o := o2) (cn := cn2) hb h1 (by simp)
    exact ⟨this.1, this.2.1, this.2.2.2.2.2.2.1, this.2.2.2.1, this.2.2.2.2.1, this.2.2.2.2.2.1⟩
end Go.Proofs.YtccfjaefnejjmaaGreat
namespace Go.Proofs.YtccfjaefnejjmaaGreat.engineGone
open Go.ChangeShapes Go.WideShapes Go.ChangeAt Go.RowKit

set_option maxRecDepth 100000 in
set_option maxHeartbeats 25600000 in
theorem walk (ts tv : Int) (t : Sl RuM) (r : RegM) (cl sq cn : Int) (w : World) (ht : rusOk w w.heap.size t) (hr : RegM.ok w w.heap.size r) (hcl : U8 cl) (hsq : U64 sq) (hc : U64 cn) :
    Calls Tryz.prog 10 #[tabV ts tv t, r.v, .int .u8 cl, .int .u64 sq, .int .u64 cn] w fun e w' => e = .returned (.bool true) ∧ Below w.heap.size w w' := by
  have RU := fun (u : World) (h : Below w.heap.size w u) => reg_stable.below hr h
  have TU := fun (u : World) (h : Below w.heap.size w u) => rus_stable.below ht h
  have ho : OpM.ok (⟨4, 0, cl, sq, 0, 0, 0, 0, 0, 0⟩ : OpM) := ⟨⟨by unfold U8; simp, by unfold U8; simp, hcl⟩, hsq, ⟨by unfold I64; simp, by unfold I64; simp, by unfold I64; simp⟩, by unfold U8; simp, by unfold U64; simp, by unfold U64; simp⟩
  have HG := hide_ (fun (u : World) (h : Below w.heap.size w u) => great7_any ts tv t r w.heap.size u (TU u h) (RU u h) h.size)
  have HR := hide_ (fun (u : World) (h : Below w.heap.size w u) => refRight_any ts tv t r ⟨4, 0, cl, sq, 0, 0, 0, 0, 0, 0⟩ cn w.heap.size u (TU u h) (RU u h) ho h.size)
  have HA := hide_ (fun (u : World) => awake07_any u)
  have HAP := hide_ (fun (u : World) (h : Below w.heap.size w u) hq h1 h2 h3 h4 h5 => apply_right ts tv t r ⟨4, 0, cl, sq, 0, 0, 0, 0, 0, 0⟩ cn w.heap.size u (TU u h) (RU u h) ho hc h.size hq h1 h2 h3 h4 h5)
  have hla : 0 ≤ r.p.la := hr.1.2.2.2.1
  have HA2 := hide_ (fun (u : World) (x : RegM) (h : Below w.heap.size w u) (hx : RegM.ok u u.heap.size x) (hq : rightB ts tv t.l r.p ⟨4, 0, cl, sq, 0, 0, 0, 0, 0, 0⟩ cn = true) (h1 : sq ≤ 4611686018427387904) (h2 : cn ≤ 4611686018427387904) (hp : x.p = (applyG ts tv t.l r.p ⟨4, 0, cl, sq, 0, 0, 0, 0, 0, 0⟩ cn).1) =>
    show Calls Tryz.prog 13 #[tabV ts tv t, x.v, OpM.v ⟨1, 0, cl, sq + 1, 0, 0, 0, 0, 0, 0⟩, .int .u64 (cn + 1)] u (Applies (applyG ts tv t.l (applyG ts tv t.l r.p ⟨4, 0, cl, sq, 0, 0, 0, 0, 0, 0⟩ cn).1 ⟨1, 0, cl, sq + 1, 0, 0, 0, 0, 0, 0⟩ (cn + 1)) 0 u) from by
      have hg := apply_good hq hla ho
      rw [← hp] at hg ⊢
      have hl := lens_of hg.1
      have ho2 : OpM.ok (⟨1, 0, cl, sq + 1, 0, 0, 0, 0, 0, 0⟩ : OpM) := ⟨⟨by unfold U8; simp, by unfold U8; simp, hcl⟩, by have := hsq.1; unfold U64; simp only; omega, ⟨by unfold I64; simp, by unfold I64; simp, by unfold I64; simp⟩, by unfold U8; simp, by unfold U64; simp, by unfold U64; simp⟩
      have hr2 : rightB ts tv t.l x.p ⟨1, 0, cl, sq + 1, 0, 0, 0, 0, 0, 0⟩ (cn + 1) = true := by
        have hmo := (rightB_lens hq).2.1
        have hmt := (rightB_lens hq).2.2.1
        unfold rightB
        simp only [Bool.and_eq_true, Bool.or_eq_true, Bool.not_eq_true', decide_eq_false_iff_not, decide_eq_true_eq]
        refine ⟨by have := hc.1; omega, ?_, hg.1, hmt, ?_⟩
        · unfold mayO mayKindB at hmo ⊢
          simp only [Bool.and_eq_true, decide_eq_true_eq, beq_iff_eq] at hmo ⊢
          simp at hmo ⊢
          have := hsq.1
          exact ⟨hmo.1, by omega, hmo.2.2⟩
        · by_cases k : x.p.ki = 1
          · exact .inr (hg.2 k)
          · exact .inl k
      exact apply_right ts tv t x ⟨1, 0, cl, sq + 1, 0, 0, 0, 0, 0, 0⟩ (cn + 1) u.heap.size u (rus_stable.more (TU u h) h.size) hx ho2 (by have := hc.1; unfold U64; omega) (Nat.le_refl _) hr2 hl.1 hl.2.1 hl.2.2.1 hl.2.2.2.1 hl.2.2.2.2)
  have HMM := hide_ (fun (hq : rightB ts tv t.l r.p ⟨4, 0, cl, sq, 0, 0, 0, 0, 0, 0⟩ cn = true) (hk : r.ki = 1) (hou : r.ou.l = []) => gone_math (o2 := ⟨1, 0, cl, sq + 1, 0, 0, 0, 0, 0, 0⟩) (cn2 := cn + 1) hq rfl hk hou rfl rfl rfl)
  have HRM := hide_ (fun (u : World) (h : Below w.heap.size w u) => (RU u h).2.2.2.2)
  obtain ⟨qr, hqr⟩ : ∃ q, rightB ts tv t.l r.p ⟨4, 0, cl, sq, 0, 0, 0, 0, 0, 0⟩ cn = q := ⟨_, rfl⟩
  obtain ⟨AP, hAP⟩ : ∃ A, applyG ts tv t.l r.p ⟨4, 0, cl, sq, 0, 0, 0, 0, 0, 0⟩ cn = A := ⟨_, rfl⟩
  simp only [hqr, hAP] at HR HAP HA2 HMM
  obtain ⟨BP, hBP⟩ : ∃ B, applyG ts tv t.l AP.1 ⟨1, 0, cl, sq + 1, 0, 0, 0, 0, 0, 0⟩ (cn + 1) = B := ⟨_, rfl⟩
  simp only [hBP] at HA2 HMM
  have HCN := hide_ hc
  have HSQ := hide_ hsq
  clear RU TU ht hr ho hc hqr hAP hBP hla hcl hsq
  obtain ⟨tA, tc, tl⟩ := t
  obtain ⟨ki, inc, st, ⟨vA, vc, vl⟩, ⟨dA, dc, dl⟩, ⟨oA, oc, ol⟩, la, ⟨mA, mc, ml⟩⟩ := r
  obtain ⟨no, hno⟩ : ∃ n, ol.length = n := ⟨_, rfl⟩
  obtain ⟨nm, hnm⟩ : ∃ n, ml.length = n := ⟨_, rfl⟩
  simp only [tabV, RegM.v, OpM.v, Sl.v, hno, hnm] at HG HR HAP HA2 HMM ⊢
  have HNO := hide_ hno
  have HNM := hide_ hnm
  clear hno hnm
  obtain ⟨W0, hW0⟩ : ∃ W0, ((w.alloc (.cells #[.int .i64 ts, .int .i64 tv, .slice tA tl.length tc] 24)).alloc (.cells #[.int .u8 ki, .int .u64 inc, .int .i64 st, .slice vA vl.length vc, .slice dA dl.length dc, .slice oA no oc, .int .u64 la, .slice mA nm mc] 31)).alloc (.cells #[.int .u8 4, .int .u8 0, .int .u8 cl, .int .u64 sq, .int .i64 0, .int .i64 0, .int .i64 0, .int .u8 0, .int .u64 0, .int .u64 0] 33) = W0 := ⟨_, rfl⟩
  have HXT := hide_ (show BoxAt W0 w.heap.size #[.int .i64 ts, .int .i64 tv, .slice tA tl.length tc] 24 from hW0 ▸ ((BoxAt.new w _ _).alloc _).alloc _)
  have HXR := hide_ (show BoxAt W0 (w.heap.size + 1) #[.int .u8 ki, .int .u64 inc, .int .i64 st, .slice vA vl.length vc, .slice dA dl.length dc, .slice oA no oc, .int .u64 la, .slice mA nm mc] 31 from by
    have h := (BoxAt.new (w.alloc (.cells #[.int .i64 ts, .int .i64 tv, .slice tA tl.length tc] 24)) #[.int .u8 ki, .int .u64 inc, .int .i64 st, .slice vA vl.length vc, .slice dA dl.length dc, .slice oA no oc, .int .u64 la, .slice mA nm mc] 31).alloc (.cells #[.int .u8 4, .int .u8 0, .int .u8 cl, .int .u64 sq, .int .i64 0, .int .i64 0, .int .i64 0, .int .u8 0, .int .u64 0, .int .u64 0] 33)
    rw [hW0] at h
    simpa using h)
  have HXO := hide_ (show BoxAt W0 (w.heap.size + 1 + 1) #[.int .u8 4, .int .u8 0, .int .u8 cl, .int .u64 sq, .int .i64 0, .int .i64 0, .int .i64 0, .int .u8 0, .int .u64 0, .int .u64 0] 33 from by
    have h := BoxAt.new ((w.alloc (.cells #[.int .i64 ts, .int .i64 tv, .slice tA tl.length tc] 24)).alloc (.cells #[.int .u8 ki, .int .u64 inc, .int .i64 st, .slice vA vl.length vc, .slice dA dl.length dc, .slice oA no oc, .int .u64 la, .slice mA nm mc] 31)) #[.int .u8 4, .int .u8 0, .int .u8 cl, .int .u64 sq, .int .i64 0, .int .i64 0, .int .i64 0, .int .u8 0, .int .u64 0, .int .u64 0] 33
    rw [hW0] at h
    simpa using h)
  have HB0 := hide_ (show Below w.heap.size w W0 from hW0 ▸ (((Below.refl _ _).alloc (Nat.le_refl _) _).alloc (by simp) _).alloc (by simp; omega) _)
  have HW0 := hide_ hW0
  clear hW0
  have hct0 := HXT.out.cell
  go_enter Tryz.func10, Tryz.ntmps10
  go_upto_region 2 with fail
  rw [HW0.out]
  have hct := HXT.out.cell
  have hcr := HXR.out.cell
  have zt := HXT.out.lt
  have zr := HXR.out.lt
  clear hct0
  go_wp2_with fail
  clear hct hcr zt zr
  refine (HG.out _ HB0.out).mono ?_
  rintro e1 w1 ⟨b1, rfl, hb1, hlen⟩
  have HLEN := hide_ hlen
  have HB1 := hide_ (HB0.out.trans (hb1.mono HB0.out.size))
  have HT1 := hide_ (HXT.out.below hb1)
  have HR1 := hide_ (HXR.out.below hb1)
  have HO1 := hide_ (HXO.out.below hb1)
  clear hb1 hlen
  have hct := HT1.out.cell
  have hcr := HR1.out.cell
  have hco := HO1.out.cell
  have zt := HT1.out.lt
  have zr := HR1.out.lt
  have zo := HO1.out.lt
  cases b1 with
  | true =>
    go_wp2_with fail
    refine (HA.out _).mono ?_
    rintro e9 w9 ⟨rfl, hb9⟩
    have HB9 := hide_ (HB1.out.trans (hb9.mono HB1.out.size))
    go_wp2
    go_ret
    exact ⟨rfl, HB9.out⟩
  | false =>
  obtain ⟨h1, h2, h3, h4, h5⟩ := HLEN.out rfl
  have HAQ := hide_ (fun (u : World) (h : Below w.heap.size w u) (hq : qr = true) => HAP.out u h hq h1 h2 (by rw [← HNO.out]; exact h3) (by rw [← HNM.out]; exact h4) h5)
  clear h1 h2 h3 h4 h5
  by_cases ks : 4611686018427387904 < sq
  case pos =>
    have ds : decide (4611686018427387904 < sq) = true := decide_eq_true ks
    clear ks
    go_wp2_with fail
    refine (HA.out _).mono ?_
    rintro e9 w9 ⟨rfl, hb9⟩
    have HB9 := hide_ (HB1.out.trans (hb9.mono HB1.out.size))
    go_wp2
    go_ret
    exact ⟨rfl, HB9.out⟩
  have ds : decide (4611686018427387904 < sq) = false := decide_eq_false ks
  have HKS := hide_ (Int.not_lt.1 ks)
  clear ks
  by_cases kc : 4611686018427387904 < cn
  case pos =>
    have dc2 : decide (4611686018427387904 < cn) = true := decide_eq_true kc
    clear kc
    go_wp2_with fail
    refine (HA.out _).mono ?_
    rintro e9 w9 ⟨rfl, hb9⟩
    have HB9 := hide_ (HB1.out.trans (hb9.mono HB1.out.size))
    go_wp2
    go_ret
    exact ⟨rfl, HB9.out⟩
  have dc2 : decide (4611686018427387904 < cn) = false := decide_eq_false kc
  have HKC := hide_ (Int.not_lt.1 kc)
  clear kc
  go_wp2_with fail
  refine (HR.out _ HB1.out).mono ?_
  rintro e2 w2 ⟨rfl, hb2⟩
  have HB2 := hide_ (HB1.out.trans (hb2.mono HB1.out.size))
  have HT2 := hide_ (HT1.out.below hb2)
  have HR2 := hide_ (HR1.out.below hb2)
  have HO2 := hide_ (HO1.out.below hb2)
  clear hb2 hct hcr hco zt zr zo
  have hct := HT2.out.cell
  have hcr := HR2.out.cell
  have hco := HO2.out.cell
  have zt := HT2.out.lt
  have zr := HR2.out.lt
  have zo := HO2.out.lt
  cases qr with
  | false =>
    go_wp2_with fail
    refine (HA.out _).mono ?_
    rintro e9 w9 ⟨rfl, hb9⟩
    have HB9 := hide_ (HB2.out.trans (hb9.mono HB2.out.size))
    go_wp2
    go_ret
    exact ⟨rfl, HB9.out⟩
  | true =>
  by_cases k1 : ki = 1
  case neg =>
    have d1 : (ki != 1) = true := bne_iff_ne.2 k1
    clear k1
    go_wp2_with fail
    refine (HA.out _).mono ?_
    rintro e9 w9 ⟨rfl, hb9⟩
    have HB9 := hide_ (HB2.out.trans (hb9.mono HB2.out.size))
    go_wp2
    go_ret
    exact ⟨rfl, HB9.out⟩
  subst k1
  by_cases k0 : no = 0
  case neg =>
    have d0 : 0 < no := by omega
    clear k0
    go_wp2_with fail
    refine (HA.out _).mono ?_
    rintro e9 w9 ⟨rfl, hb9⟩
    have HB9 := hide_ (HB2.out.trans (hb9.mono HB2.out.size))
    go_wp2
    go_ret
    exact ⟨rfl, HB9.out⟩
  subst k0
  go_wp2_with fail
  clear hct hcr hco zt zr zo
  refine (HAQ.out w2 HB2.out (by first | trivial | rfl)).mono ?_
  rintro e3 w3 ⟨x, y, rfl, hxp, hyp, hfr, hyn, hyv, hb3⟩
  have HB3 := hide_ (HB2.out.trans (hb3.mono HB2.out.size))
  have HT3 := hide_ (HT2.out.below hb3)
  have HR3 := hide_ (HR2.out.below hb3)
  have HFR := hide_ hfr.ok
  have HXP := hide_ hxp
  have HYP := hide_ hyp
  clear hb3 hfr hyn hyv hxp hyp
  obtain ⟨xki, xinc, xst, ⟨xvA, xvc, xvl⟩, ⟨xdA, xdc, xdl⟩, ⟨xoA, xoc, xol⟩, xla, ⟨xmA, xmc, xml⟩⟩ := x
  obtain ⟨per, pyi, pys, ⟨pyA, pyc, pyl⟩⟩ := y
  have hmm := HMM.out (by first | trivial | rfl) (by first | trivial | rfl) (List.length_eq_zero_iff.1 HNO.out)
  have hx1 := HXP.out
  have hy1 := HYP.out
  rw [← hx1, ← hy1] at hmm
  have HMM2 := hide_ hmm
  clear hmm hx1 hy1
  simp only [RegM.p, RepM.p] at HMM2
  simp only [RegM.v, RepM.v, Sl.v]
  obtain ⟨W4, hW4⟩ : ∃ W4, (w3.alloc (.cells #[.int .u8 xki, .int .u64 xinc, .int .i64 xst, .slice xvA xvl.length xvc, .slice xdA xdl.length xdc, .slice xoA xol.length xoc, .int .u64 xla, .slice xmA xml.length xmc] 31)).alloc (.cells #[.int .i64 per, .int .u64 pyi, .int .i64 pys, .slice pyA pyl.length pyc] 38) = W4 := ⟨_, rfl⟩
  have hb4 : Below w3.heap.size w3 W4 := hW4 ▸ ((Below.refl _ _).alloc (Nat.le_refl _) _).alloc (by simp) _
  have HX4 := hide_ (show BoxAt W4 w3.heap.size #[.int .u8 xki, .int .u64 xinc, .int .i64 xst, .slice xvA xvl.length xvc, .slice xdA xdl.length xdc, .slice xoA xol.length xoc, .int .u64 xla, .slice xmA xml.length xmc] 31 from hW4 ▸ (BoxAt.new w3 _ _).alloc _)
  have HY4 := hide_ (show BoxAt W4 (w3.heap.size + 1) #[.int .i64 per, .int .u64 pyi, .int .i64 pys, .slice pyA pyl.length pyc] 38 from by
    have h := BoxAt.new (w3.alloc (.cells #[.int .u8 xki, .int .u64 xinc, .int .i64 xst, .slice xvA xvl.length xvc, .slice xdA xdl.length xdc, .slice xoA xol.length xoc, .int .u64 xla, .slice xmA xml.length xmc] 31)) #[.int .i64 per, .int .u64 pyi, .int .i64 pys, .slice pyA pyl.length pyc] 38
    rw [hW4] at h
    simpa using h)
  have HT4 := hide_ (HT3.out.below hb4)
  have HR4 := hide_ (HR3.out.below hb4)
  have HB4 := hide_ (HB3.out.trans (hb4.mono HB3.out.size))
  have HFX4 := hide_ (show RegM.ok W4 W4.heap.size ⟨xki, xinc, xst, ⟨xvA, xvc, xvl⟩, ⟨xdA, xdc, xdl⟩, ⟨xoA, xoc, xol⟩, xla, ⟨xmA, xmc, xml⟩⟩ from reg_stable.more (reg_stable.below HFR.out hb4) hb4.size)
  have HW4 := hide_ hW4
  clear hW4 hb4
  go_upto_region 5 with fail
  rw [HW4.out]
  have hcx := HX4.out.cell
  have hcy := HY4.out.cell
  have hct := HT4.out.cell
  have zt := HT4.out.lt
  have zx := HX4.out.lt
  have zy := HY4.out.lt
  have hw1 : IntKind.u64.wrap (sq + 1) = sq + 1 := by rw [IntKind.wrap_u64]; have := HSQ.out.1; have := HKS.out; omega
  have hw2 : IntKind.u64.wrap (cn + 1) = cn + 1 := by rw [IntKind.wrap_u64]; have := HCN.out.1; have := HKC.out; omega
  rcases HMM2.out with h15 | ⟨h0, hk⟩ | ⟨h0, h15, hq0⟩ | ⟨h0, hk, z1, z2, z3, z4, z5, z6⟩
  · subst h15
    go_wp2_with fail
    refine (HA.out _).mono ?_
    rintro e9 w9 ⟨rfl, hb9⟩
    have HB9 := hide_ (HB4.out.trans (hb9.mono HB4.out.size))
    go_wp2
    go_ret
    exact ⟨rfl, HB9.out⟩
  · subst h0 hk
    go_wp2_with fail
    refine (HA.out _).mono ?_
    rintro e9 w9 ⟨rfl, hb9⟩
    have HB9 := hide_ (HB4.out.trans (hb9.mono HB4.out.size))
    go_wp2
    go_ret
    exact ⟨rfl, HB9.out⟩
  · have d0 : (per != 0) = true := bne_iff_ne.2 h0
    have d0b : (per == 0) = false := beq_eq_false_iff_ne.2 h0
    have d15 : (per != 15) = true := bne_iff_ne.2 h15
    have d15b : (per == 15) = false := beq_eq_false_iff_ne.2 h15
    clear h0 h15
    go_wp2_with fail
    clear hcx hcy hct zt zx zy
    refine (HA2.out W4 ⟨xki, xinc, xst, ⟨xvA, xvc, xvl⟩, ⟨xdA, xdc, xdl⟩, ⟨xoA, xoc, xol⟩, xla, ⟨xmA, xmc, xml⟩⟩ HB4.out HFX4.out (by first | trivial | rfl) HKS.out HKC.out HXP.out).mono ?_
    rintro e5 w5 ⟨x, y, rfl, hxp, hyp, hfr, -, -, hb5⟩
    have HB5 := hide_ (HB4.out.trans (hb5.mono HB4.out.size))
    have HY5 := hide_ (HY4.out.below hb5)
    have HR5 := hide_ (HR4.out.below hb5)
    have HFZ := hide_ hfr.ok.2.2.2.2
    have HZP := hide_ hxp
    have HQP := hide_ hyp
    clear hb5 hfr hxp hyp
    obtain ⟨zki, zinc, zst, ⟨zvA, zvc, zvl⟩, ⟨zdA, zdc, zdl⟩, ⟨zoA, zoc, zol⟩, zla, ⟨zmA, zmc, zml⟩⟩ := x
    obtain ⟨qer, qyi, qys, ⟨qyA, qyc, qyl⟩⟩ := y
    obtain ⟨zno, hzno⟩ : ∃ n, zol.length = n := ⟨_, rfl⟩
    obtain ⟨znm, hznm⟩ : ∃ n, zml.length = n := ⟨_, rfl⟩
    simp only [RegM.v, RepM.v, Sl.v, hzno, hznm]
    obtain ⟨W6, hW6⟩ : ∃ W6, (w5.alloc (.cells #[.int .u8 zki, .int .u64 zinc, .int .i64 zst, .slice zvA zvl.length zvc, .slice zdA zdl.length zdc, .slice zoA zno zoc, .int .u64 zla, .slice zmA znm zmc] 31)).alloc (.cells #[.int .i64 qer, .int .u64 qyi, .int .i64 qys, .slice qyA qyl.length qyc] 38) = W6 := ⟨_, rfl⟩
    have hb6 : Below w5.heap.size w5 W6 := hW6 ▸ ((Below.refl _ _).alloc (Nat.le_refl _) _).alloc (by simp) _
    have HZ6 := hide_ (show BoxAt W6 w5.heap.size #[.int .u8 zki, .int .u64 zinc, .int .i64 zst, .slice zvA zvl.length zvc, .slice zdA zdl.length zdc, .slice zoA zno zoc, .int .u64 zla, .slice zmA znm zmc] 31 from hW6 ▸ (BoxAt.new w5 _ _).alloc _)
    have HQ6 := hide_ (show BoxAt W6 (w5.heap.size + 1) #[.int .i64 qer, .int .u64 qyi, .int .i64 qys, .slice qyA qyl.length qyc] 38 from by
      have h := BoxAt.new (w5.alloc (.cells #[.int .u8 zki, .int .u64 zinc, .int .i64 zst, .slice zvA zvl.length zvc, .slice zdA zdl.length zdc, .slice zoA zno zoc, .int .u64 zla, .slice zmA znm zmc] 31)) #[.int .i64 qer, .int .u64 qyi, .int .i64 qys, .slice qyA qyl.length qyc] 38
      rw [hW6] at h
      simpa using h)
    have HY6 := hide_ (HY5.out.below hb6)
    have HR6 := hide_ (HR5.out.below hb6)
    have HB6 := hide_ (HB5.out.trans (hb6.mono HB5.out.size))
    have HFZ6 := hide_ (show mrksOk W6 w5.heap.size ⟨zmA, zmc, zml⟩ from mrks_stable.below HFZ.out hb6)
    have HW6 := hide_ hW6
    clear hW6 hb6
    have hqi : qyi = 0 := by
      have h1 := HQP.out
      rw [← h1] at hq0
      exact hq0
    have dq : (qyi != cn + 1) = true := bne_iff_ne.2 (by have := HCN.out.1; omega)
    clear hq0 hqi hzno hznm
    go_upto_region 8 with fail
    rw [HW6.out]
    have hcz := HZ6.out.cell
    have hcq := HQ6.out.cell
    have hcy := HY6.out.cell
    have zz := HZ6.out.lt
    have zq := HQ6.out.lt
    have zy := HY6.out.lt
    obtain ⟨b1, hb1⟩ : ∃ b, (zki != 1) = b := ⟨_, rfl⟩
    obtain ⟨b2, hb2⟩ : ∃ b, (zinc != cn + 1) = b := ⟨_, rfl⟩
    cases b1 with
    | true =>
      go_wp2_with fail
      refine (HA.out _).mono ?_
      rintro e9 w9 ⟨rfl, hb9⟩
      have HB9 := hide_ (HB6.out.trans (hb9.mono HB6.out.size))
      go_wp2
      go_ret
      exact ⟨rfl, HB9.out⟩
    | false =>
      cases b2 with
      | true =>
        go_wp2_with fail
        refine (HA.out _).mono ?_
        rintro e9 w9 ⟨rfl, hb9⟩
        have HB9 := hide_ (HB6.out.trans (hb9.mono HB6.out.size))
        go_wp2
        go_ret
        exact ⟨rfl, HB9.out⟩
      | false =>
        go_wp2_with fail
        refine (HA.out _).mono ?_
        rintro e9 w9 ⟨rfl, hb9⟩
        have HB9 := hide_ (HB6.out.trans (hb9.mono HB6.out.size))
        go_wp2
        go_ret
        exact ⟨rfl, HB9.out⟩
  · subst h0
    have dk : (xki == 1) = false := beq_eq_false_iff_ne.2 hk
    clear hk
    go_wp2_with fail
    clear hcx hcy hct zt zx zy
    refine (HA2.out W4 ⟨xki, xinc, xst, ⟨xvA, xvc, xvl⟩, ⟨xdA, xdc, xdl⟩, ⟨xoA, xoc, xol⟩, xla, ⟨xmA, xmc, xml⟩⟩ HB4.out HFX4.out (by first | trivial | rfl) HKS.out HKC.out HXP.out).mono ?_
    rintro e5 w5 ⟨x, y, rfl, hxp, hyp, hfr, -, -, hb5⟩
    have HB5 := hide_ (HB4.out.trans (hb5.mono HB4.out.size))
    have HY5 := hide_ (HY4.out.below hb5)
    have HR5 := hide_ (HR4.out.below hb5)
    have HFZ := hide_ hfr.ok.2.2.2.2
    have HZP := hide_ hxp
    have HQP := hide_ hyp
    clear hb5 hfr hxp hyp
    obtain ⟨zki, zinc, zst, ⟨zvA, zvc, zvl⟩, ⟨zdA, zdc, zdl⟩, ⟨zoA, zoc, zol⟩, zla, ⟨zmA, zmc, zml⟩⟩ := x
    obtain ⟨qer, qyi, qys, ⟨qyA, qyc, qyl⟩⟩ := y
    obtain ⟨zno, hzno⟩ : ∃ n, zol.length = n := ⟨_, rfl⟩
    obtain ⟨znm, hznm⟩ : ∃ n, zml.length = n := ⟨_, rfl⟩
    simp only [RegM.v, RepM.v, Sl.v, hzno, hznm]
    obtain ⟨W6, hW6⟩ : ∃ W6, (w5.alloc (.cells #[.int .u8 zki, .int .u64 zinc, .int .i64 zst, .slice zvA zvl.length zvc, .slice zdA zdl.length zdc, .slice zoA zno zoc, .int .u64 zla, .slice zmA znm zmc] 31)).alloc (.cells #[.int .i64 qer, .int .u64 qyi, .int .i64 qys, .slice qyA qyl.length qyc] 38) = W6 := ⟨_, rfl⟩
    have hb6 : Below w5.heap.size w5 W6 := hW6 ▸ ((Below.refl _ _).alloc (Nat.le_refl _) _).alloc (by simp) _
    have HZ6 := hide_ (show BoxAt W6 w5.heap.size #[.int .u8 zki, .int .u64 zinc, .int .i64 zst, .slice zvA zvl.length zvc, .slice zdA zdl.length zdc, .slice zoA zno zoc, .int .u64 zla, .slice zmA znm zmc] 31 from hW6 ▸ (BoxAt.new w5 _ _).alloc _)
    have HQ6 := hide_ (show BoxAt W6 (w5.heap.size + 1) #[.int .i64 qer, .int .u64 qyi, .int .i64 qys, .slice qyA qyl.length qyc] 38 from by
      have h := BoxAt.new (w5.alloc (.cells #[.int .u8 zki, .int .u64 zinc, .int .i64 zst, .slice zvA zvl.length zvc, .slice zdA zdl.length zdc, .slice zoA zno zoc, .int .u64 zla, .slice zmA znm zmc] 31)) #[.int .i64 qer, .int .u64 qyi, .int .i64 qys, .slice qyA qyl.length qyc] 38
      rw [hW6] at h
      simpa using h)
    have HY6 := hide_ (HY5.out.below hb6)
    have HR6 := hide_ (HR5.out.below hb6)
    have HB6 := hide_ (HB5.out.trans (hb6.mono HB5.out.size))
    have HFZ6 := hide_ (show mrksOk W6 w5.heap.size ⟨zmA, zmc, zml⟩ from mrks_stable.below HFZ.out hb6)
    have HW6 := hide_ hW6
    clear hW6 hb6
    have h1 := HZP.out
    have h2 := HQP.out
    rw [← h1] at z1 z2 z4 z5 z6
    rw [← h2] at z3
    simp only [RegM.p] at z1 z2 z4 z5 z6
    simp only [RepM.p] at z3
    subst z1 z2 z3 z4 z5 z6
    clear h1 h2
    simp only [List.length_nil] at hzno
    subst hzno
    have hnn : znm = nm := by rw [← hznm]; exact HNM.out
    subst hnn
    clear hznm
    have hcm : znm ≤ 9223372036854775807 := by have h1 := HFZ6.out.1; have h2 := HFZ6.out.2.1; have h3 := HNM.out; unfold maxLen at h2; simp only at h1 h2; omega
    go_upto_region 8 with fail
    rw [HW6.out]
    have hcz := HZ6.out.cell
    have hcq := HQ6.out.cell
    have hcr := HR6.out.cell
    have zz := HZ6.out.lt
    have zq := HQ6.out.lt
    have zr := HR6.out.lt
    go_wp2
    go_loopw [18] (fun i wr => ∃ k : Nat, k ≤ znm ∧ i = .int .i64 k ∧ Hid (Below W6.heap.size W6 wr)) (fun i _ => znm - (intOf i).toNat)
    case atStart => exact ⟨0, Nat.zero_le _, rfl, Below.refl _ _⟩
    case round =>
      obtain ⟨k, hk, rfl, HBW⟩ := hrel
      clear hcz hcq hcr zz zq zr
      have hcz := (HZ6.out.below HBW.out).cell
      have hcr := (HR6.out.below HBW.out).cell
      have zz := (HZ6.out.below HBW.out).lt
      have zr := (HR6.out.below HBW.out).lt
      have HBB := hide_ (HB6.out.trans (HBW.out.mono HB6.out.size))
      by_cases hlt : k < znm
      · obtain ⟨m, hm⟩ : ∃ m, zml[k]? = some m := ⟨_, List.getElem?_eq_getElem (by rw [HNM.out]; exact hlt)⟩
        obtain ⟨tb, ot, rfl, hab, e0, e1, e2⟩ := (mrks_stable.below HFZ6.out (HBW.out.mono (by have := HZ6.out.lt; omega))).2.2.1.mrk hm
        obtain ⟨tb2, ot2, rfl, hab2, f0, f1, f2⟩ := (HRM.out _ HBB.out).2.2.1.mrk hm
        have hq1 : tb < wr.heap.size := by omega
        have hq2 : tb2 < wr.heap.size := by have := HBB.out.size; omega
        obtain ⟨m1, m2, m3⟩ := m
        simp only at e0 e1 e2 f0 f1 f2
        have HQW := hide_ (fun (n : Nat) => below_drawsN HBW.out n)
        clear hm
        go_upto_region 13 with fail
        go_quiet (fail)
        go_wp2
        go_roundw
        case rel => exact ⟨k + 1, by omega, by go_num, HQW.out _⟩
        case measure => simp [intOf]; omega
      · obtain rfl : k = znm := by omega
        go_wp2_with fail
        refine (HA.out _).mono ?_
        rintro e9 w9 ⟨rfl, hb9⟩
        have HB9 := hide_ (HBB.out.trans (hb9.mono HBB.out.size))
        go_wp2
        go_ret
        exact ⟨rfl, HB9.out⟩

theorem own : ownKnob Tryz.prog.godebug = none := by kernel_rfl
theorem laid : laidOutB Tryz.prog = true := by kernel_rfl

set_option maxRecDepth 100000 in
theorem contract (H : Type) (enc : TypeId × Value → H) (W : World) (base : Nat) (args : Array Value) (ds gs : List (DataW H)) (before : List MemPlace)
    (hval : ∀ (j : Nat) t v, Tryz.f10.params[j]? = some t → args[j]? = some v → Value.okWide Tryz.prog W .any base t v)
    (hW : DataW.Whole enc Tryz.prog Tryz.f10.params.toList Rows.engineGoneSpec.vars false W args.toList ds gs before) :
    Calls Tryz.prog 10 args W fun e W' => ∃ v, e = .returned v ∧ Rows.engineGoneSpec.post enc Tryz.prog Tryz.f10 false true false false W args v W' := by
  have hW' := hW
  obtain ⟨p, q, hA0, hV, rfl, hfz, hnd⟩ := hW
  have hA : DataW.TrodAll enc Tryz.prog W 0 (fun _ => true) true Tryz.f10.params.toList args.toList ds p := hA0
  rw [Tryz.params10] at hA hval
  obtain ⟨v0, vs0, d0, ds0, p0, q0, hargs, rfl, rfl, h0, r0⟩ := trodAll_cons hA
  obtain ⟨v1, vs1, d1, ds1, p1, q1, rfl, rfl, rfl, h1, r1⟩ := trodAll_cons r0
  obtain ⟨v2, vs2, d2, ds2, p2, q2, rfl, rfl, rfl, h2, r2⟩ := trodAll_cons r1
  obtain ⟨v3, vs3, d3, ds3, p3, q3, rfl, rfl, rfl, h3, r3⟩ := trodAll_cons r2
  obtain ⟨v4, vs4, d4, ds4, p4, q4, rfl, rfl, rfl, h4, r4⟩ := trodAll_cons r3
  obtain ⟨rfl, rfl, rfl⟩ := trodAll_nil r4
  obtain rfl : args = #[v0, v1, v2, v3, v4] := by cases args; simp_all
  obtain ⟨rfl, rfl⟩ := trodVars_none hV
  obtain ⟨x0, y0, z0, rfl, bx0, by0, bz0⟩ := open_table (hval 0 24 v0 rfl rfl) h0
  obtain ⟨u1, rfl, bu1⟩ := open_reg (hval 1 31 v1 rfl rfl) h1
  obtain ⟨a2, rfl, rfl, rfl, w2⟩ := open_int Tryz.underlying5 (hval 2 5 v2 rfl rfl) h2
  have b2 : 0 ≤ a2 ∧ a2 ≤ 255 := by simpa [Lit.wf, IntKind.min, IntKind.max, IntKind.signed, IntKind.bits] using w2
  obtain ⟨a3, rfl, rfl, rfl, w3⟩ := open_int Tryz.underlying25 (hval 3 25 v3 rfl rfl) h3
  have b3 : 0 ≤ a3 ∧ a3 ≤ 18446744073709551615 := by simpa [Lit.wf, IntKind.min, IntKind.max, IntKind.signed, IntKind.bits] using w3
  obtain ⟨a4, rfl, rfl, rfl, w4⟩ := open_int Tryz.underlying25 (hval 4 25 v4 rfl rfl) h4
  have b4 : 0 ≤ a4 ∧ a4 ≤ 18446744073709551615 := by simpa [Lit.wf, IntKind.min, IntKind.max, IntKind.signed, IntKind.bits] using w4
  have fin : ∀ (e : Ending) (W' : World), e = .returned (.bool true) ∧ Below W.heap.size W W' → ∃ v, e = .returned v ∧ Rows.engineGoneSpec.post enc Tryz.prog Tryz.f10 false true false false W #[tabV x0 y0 z0, RegM.v u1, .int .u8 a2, .int .u64 a3, .int .u64 a4] v W' :=
    fun e W' ⟨he, hb⟩ => ⟨_, he, law_post laid (by kernel_rfl) rfl rfl rfl Tryz.underlying4 hW' hb⟩
  exact (walk x0 y0 z0 u1 a2 a3 a4 W bz0 bu1 b2 b3 b4).mono fin

set_option maxRecDepth 100000 in
theorem lifted (os : Os) (started : os.Started) (H : Type) (enc : TypeId × Value → H) :
    ReturnsInHanded {} Tryz.checked os 10 .any (Rows.engineGoneSpec.pre6 enc Tryz.prog Tryz.f10 Rows.engineGoneRow.domain false) (Rows.engineGoneSpec.post enc Tryz.prog Tryz.f10 false true false false) := by
  refine returnsInHanded_of_change (C := Tryz.checked) (s := Rows.engineGoneSpec) own started (by kernel_rfl) Tryz.func10
    (ChangeSpec.witness6 (enc := enc) (C := Tryz.checked) false ⟨#[], #[.agg #[.int .i64 0, .int .i64 0, .slice none 0 0], .agg #[.int .u8 0, .int .u64 0, .int .i64 0, .slice none 0 0, .slice none 0 0, .slice none 0 0, .int .u64 0, .slice none 0 0], .int .u8 0, .int .u64 0, .int .u64 0], []⟩ 8 (by kernel_rfl) (by kernel_rfl) (by kernel_rfl) (by kernel_rfl)) ?_
  intro W base args ds gs before hval hW _ _
  exact contract H enc W base args ds gs before hval hW

theorem proved : Rows.EngineGoneSaid :=
  OpenClaim.holds_of_wide 10 Tryz.f10 rfl rfl rfl rfl rfl rfl rfl ⟨rfl, rfl, rfl, rfl, rfl⟩ rfl rfl rfl rfl rfl (by kernel_rfl) Tryz.func10 (by kernel_rfl)
    (of_decide_eq_true (by kernel_rfl)) (by unfold Func.isWrapper; first | (rw [if_pos (by decide +kernel)]; kernel_rfl) | (rw [if_neg (by decide +kernel)]; exact ⟨rfl, rfl⟩))
    (fun os started H enc _ => lifted os started H enc)

end Go.Proofs.YtccfjaefnejjmaaGreat.engineGone
