/-
  Contract of table's putRule.
-/
import Derived.Test.YtkjgplcfoihohaaPutT2
namespace Go.Proofs.Ytkjgplcfoihohaa
open Go.RowKit

/-- no number of a rule is below 0 -/
def RuP (r : RuM) : Prop := (0 ≤ r.fr ∧ 0 ≤ r.ac ∧ 0 ≤ r.pa ∧ 0 ≤ r.tt) ∧ (∀ s ∈ r.se.l, 0 ≤ s.var) ∧ (∀ e ∈ r.em.l, 0 ≤ e.ac)
theorem ruP_of {st vs : Int} {r : RuM} (h : ruB st vs r = true) : RuP r := by
  obtain ⟨h1, h2, h3, h4, -, hs, he⟩ := ruB_parts h
  refine ⟨⟨h1.1, h3.1, h4.1, h2.1⟩, fun s hm => ?_, fun e hm => ?_⟩
  · obtain ⟨k, hk, rfl⟩ := List.getElem_of_mem hm
    exact (setsB_var hs (List.getElem?_eq_getElem hk)).1
  · obtain ⟨k, hk, rfl⟩ := List.getElem_of_mem hm
    exact (emsB_at he (List.getElem?_eq_getElem hk)).2.1.1

theorem numsB1 (a : Int) : numsB [a] = natB a := by simp [numsB]
theorem numsB2 (a b : Int) : numsB [a, b] = natB a ++ natB b := by simp [numsB]
theorem numsB3 (a b c : Int) : numsB [a, b, c] = natB a ++ (natB b ++ natB c) := by simp [numsB]
theorem numsB4 (a b c d : Int) : numsB [a, b, c, d] = natB a ++ (natB b ++ (natB c ++ natB d)) := by simp [numsB]

set_option maxRecDepth 100000 in
set_option maxHeartbeats 1600000 in
/-- a Set's bytes, behind a row of one's own: what a round of putRule's first loop does -/
theorem putRule_any (l r : List UInt8) (x : RuM) (base : Nat) (v : Value) (B : Nat) (w : World) (hres : l ++ ruBy x = r) (hl : l.length ≤ 800000) (hxs : RuS x) (hxp : RuP x) (hx : RuM.ok w B x) (hB : B ≤ base)
    (hown : w.ownsRow base 5 1 v l.length (bv l)) (hbase : base ≤ w.heap.size) :
    Calls Try.prog 34 #[v, x.v] w (PutsOn base v r w) := by
  obtain ⟨fr, xc, xp, tt, ⟨gA, gc, gl⟩, ⟨sA, sc, sl⟩, ⟨eA, ec, el⟩⟩ := x
  obtain ⟨⟨i1, i2, i3, i4⟩, hg, hse, hem⟩ := hx
  obtain ⟨gl24, ⟨sl8, sl24⟩, ⟨el4, el24⟩⟩ := hxs
  obtain ⟨⟨p1, p2, p3, p4⟩, sp, ep⟩ := hxp
  simp only at i1 i2 i3 i4 hg hse hem gl24 sl8 sl24 el4 el24 p1 p2 p3 p4 sp ep
  obtain ⟨gn, hgn⟩ : ∃ n, gl.length = n := ⟨_, rfl⟩
  obtain ⟨sn, hsn⟩ : ∃ n, sl.length = n := ⟨_, rfl⟩
  obtain ⟨ee, hen⟩ : ∃ n, el.length = n := ⟨_, rfl⟩
  have i1' := i1.2
  have i2' := i2.2
  have i3' := i3.2
  have i4' := i4.2
  clear i1 i2 i3 i4
  -- the rows, one behind the other
  obtain ⟨r1, hr1⟩ : ∃ r1, l ++ (natB fr ++ (natB xc ++ (natB xp ++ natB tt))) = r1 := ⟨_, rfl⟩
  obtain ⟨r2, hr2⟩ : ∃ r2, r1 ++ fmlB gl = r2 := ⟨_, rfl⟩
  obtain ⟨r3, hr3⟩ : ∃ r3, r2 ++ natB sn = r3 := ⟨_, rfl⟩
  obtain ⟨r4, hr4⟩ : ∃ r4, r3 ++ sl.flatMap setBy = r4 := ⟨_, rfl⟩
  obtain ⟨r5, hr5⟩ : ∃ r5, r4 ++ natB ee = r5 := ⟨_, rfl⟩
  have hr6 : r5 ++ el.flatMap emBy = r := by
    rw [← hres, ← hr5, ← hr4, ← hr3, ← hr2, ← hr1]
    unfold ruBy setsBy emsBy
    simp only [hsn, hen, List.append_assoc]
  have n1 : r1.length ≤ 800040 := by
    rw [← hr1]
    simp only [List.length_append]
    have := natB_len fr i1'
    have := natB_len xc i2'
    have := natB_len xp i3'
    have := natB_len tt i4'
    omega
  have n2 : r2.length ≤ 800530 := by rw [← hr2, List.length_append]; have := fmlB_len gl hg.2.2.2 gl24; omega
  have n3 : r3.length ≤ 800540 := by rw [← hr3, List.length_append]; have := natB_len sn (by omega); omega
  have n4 : r4.length ≤ 804540 := by
    rw [← hr4, List.length_append]
    have := flat_le (f := setBy) sl fun s hs => setBy_len (hse.2.2.2 s hs) (sl24 s hs)
    omega
  have n5 : r5.length ≤ 804550 := by rw [← hr5, List.length_append]; have := natB_len ee (by omega); omega
  have HR1 := hide_ (show l ++ numsB [fr, xc, xp, tt] = r1 by rw [numsB4, hr1])
  have HR2 := hide_ hr2
  have HR3 := hide_ (show r2 ++ numsB [(sn : Int)] = r3 by rw [numsB1, hr3])
  have HR4 := hide_ hr4
  have HR5 := hide_ (show r4 ++ numsB [(ee : Int)] = r5 by rw [numsB1, hr5])
  have HR6 := hide_ hr6
  clear hres hr1 hr2 hr3 hr4 hr5 hr6
  have HG := hide_ hg
  have HSE := hide_ hse
  have HEM := hide_ hem
  have HO := hide_ hown
  have HGN := hide_ hgn
  have HSN := hide_ hsn
  have HEN := hide_ hen
  have HSP := hide_ sp
  have HEP := hide_ ep
  have HS24 := hide_ sl24
  have HE24 := hide_ el24
  simp only [hgn, hsn, hen] at gl24 sl8 el4
  simp only [RuM.v, Sl.v, hgn, hsn, hen]
  clear hg hse hem hown hgn hsn hen sp ep sl24 el24
  have hb1 := (Below.refl w.heap.size w).alloc (Nat.le_refl _) (.cells #[.int .i64 fr, .int .i64 xc, .int .i64 xp, .int .i64 tt, .slice gA gn gc, .slice sA sn sc, .slice eA ee ec] 40)
  have HU1 := hide_ (hb1.alloc (by simp) (.cells #[.int .i64 fr, .int .i64 xc, .int .i64 xp, .int .i64 tt] 3))
  have HSU1 := hide_ (sees_nums_z (w := w.alloc (.cells #[.int .i64 fr, .int .i64 xc, .int .i64 xp, .int .i64 tt, .slice gA gn gc, .slice sA sn sc, .slice eA ee ec] 40)) [fr, xc, xp, tt] #[.int .i64 fr, .int .i64 xc, .int .i64 xp, .int .i64 tt] 3 (w.heap.size + 1) (by simp) rfl)
  have HXR1 := hide_ ((BoxAt.new w #[.int .i64 fr, .int .i64 xc, .int .i64 xp, .int .i64 tt, .slice gA gn gc, .slice sA sn sc, .slice eA ee ec] 40).alloc (.cells #[.int .i64 fr, .int .i64 xc, .int .i64 xp, .int .i64 tt] 3))
  clear hb1
  go_enter Try.func34, Try.ntmps34
  go_wp2_with fail
  refine (putNums_at l r1 [fr, xc, xp, tt] base v 4 _ w _ _ (by simp) HU1.out HSU1.out (by omega) HR1.out rfl (by omega) (by intro y hy; simp at hy; rcases hy with rfl | rfl | rfl | rfl <;> omega) (by omega) HO.out hbase).mono ?_
  rintro en w1 ⟨A1, c1, rfl, hst1⟩
  have HST1 := hide_ (RowStep.fresh HU1.out hst1)
  have HX1 := hide_ (HXR1.out.step (by decide) (own_below HO.out HU1.out) hst1)
  clear hst1
  have hz1 : w.heap.size < w1.heap.size := HX1.out.lt
  have hcx := HX1.out.cell
  have HBW1 := hide_ (HST1.out.below HO.out hB (by omega))
  go_wp2_with fail
  refine (putFormula_any r1 r2 ⟨gA, gc, gl⟩ gn HGN.out base _ B _ HR2.out (by omega) (by rw [HGN.out]; omega) (toks_stable.below HG.out HBW1.out) hB HST1.out.own (by omega)).mono ?_
  rintro en w2 ⟨A2, c2, rfl, hst2⟩
  have HST2 := hide_ (HST1.out.trans hst2)
  have HX2 := hide_ (HX1.out.step (by decide) HST1.out.own hst2)
  clear hst2 hcx
  have hz2 : w.heap.size < w2.heap.size := HX2.out.lt
  have hcx2 := HX2.out.cell
  have HU2 := hide_ ((Below.refl w2.heap.size w2).alloc (Nat.le_refl _) (.cells #[.int .i64 sn] 3))
  have HSU2 := hide_ (sees_nums_z (w := w2) [(sn : Int)] #[.int .i64 sn] 3 _ rfl rfl)
  go_wp2_with fail
  refine (putNums_at r2 r3 [(sn : Int)] base _ 1 _ w2 _ _ (by simp) HU2.out HSU2.out (Nat.le_refl _) HR3.out rfl (by omega) (by intro y hy; simp at hy; subst hy; omega) (by omega) HST2.out.own (by omega)).mono ?_
  rintro en w3 ⟨A3, c3, rfl, hst3⟩
  have HX3 := hide_ ((HX2.out.alloc _).step (by decide) (own_below HST2.out.own HU2.out) hst3)
  have HST3 := hide_ (HST2.out.trans (RowStep.fresh HU2.out hst3))
  clear hst3 hcx2
  have hz3 : w.heap.size < w3.heap.size := HX3.out.lt
  have hcx3 := HX3.out.cell
  go_wp2
  clear hcx3
  go_loopw [0, 33] (fun b i wr => ∃ (k : Nat), k ≤ sn ∧ i = .int .i64 k ∧ Hid (RowStep base v w b wr (r3 ++ (sl.take k).flatMap setBy)) ∧ Hid (BoxAt wr w.heap.size #[.int .i64 fr, .int .i64 xc, .int .i64 xp, .int .i64 tt, .slice gA gn gc, .slice sA sn sc, .slice eA ee ec] 40)) (fun _ i _ => sn - (intOf i).toNat)
  case atStart => exact ⟨0, Nat.zero_le _, rfl, hide_ (by simpa using HST3.out), HX3.out⟩
  case round =>
    obtain ⟨k, hk, rfl, HK, HXR⟩ := hrel
    have hzw : w.heap.size ≤ wr.heap.size := HK.out.grow.size
    have hbw : Below B w wr := HK.out.below HO.out hB (by omega)
    by_cases hlt : k < sn
    · have hs1 := (sets_stable.below HSE.out hbw).2.2.1
      obtain ⟨x, hx⟩ : ∃ x, sl[k]? = some x := ⟨_, List.getElem?_eq_getElem (by rw [HSN.out]; exact hlt)⟩
      obtain ⟨tb, ot, rfl, hab, h0, h1⟩ := hs1.set hx
      have hwz : tb < wr.heap.size := by omega
      have hxo := set_stable.below (HSE.out.2.2.2 x (List.mem_of_getElem? hx)) hbw
      have hxp := HSP.out x (List.mem_of_getElem? hx)
      have hx24 := HS24.out x (List.mem_of_getElem? hx)
      have HX := hide_ (show r3 ++ (sl.take (k + 1)).flatMap setBy = ((r3 ++ (sl.take k).flatMap setBy) ++ natB x.var) ++ fmlB x.val.l by
        rw [flat_snoc hx]
        unfold setBy
        simp only [List.append_assoc])
      have HLN := hide_ (show (r3 ++ (sl.take k).flatMap setBy).length ≤ 804540 by
        have h1 := flat_take_le (f := setBy) (q := 500) sl (fun z hz => setBy_len (HSE.out.2.2.2 z hz) (HS24.out z hz)) k
        rw [HSN.out] at h1
        rw [List.length_append]
        omega)
      obtain ⟨vr, ⟨vA, vc, vl⟩⟩ := x
      obtain ⟨vn, hvn⟩ : ∃ vn, vl.length = vn := ⟨_, rfl⟩
      simp only [hvn] at h0 h1 hxp hx24 HX
      have HVN := hide_ hvn
      have hv2 : vr ≤ 9223372036854775807 := hxo.1.2
      have HV := hide_ hxo.2
      obtain ⟨l2, hl2⟩ : ∃ l2, r3 ++ (sl.take (k + 1)).flatMap setBy = l2 := ⟨_, rfl⟩
      rw [hl2] at HX
      have HL2 := hide_ hl2
      clear hl2 hx hs1 hvn hxo
      generalize r3 ++ (sl.take k).flatMap setBy = la at HX HLN HK
      obtain ⟨lb, hlb⟩ : ∃ lb, la ++ natB vr = lb := ⟨_, rfl⟩
      rw [hlb] at HX
      have HLA := hide_ (show la ++ numsB [vr] = lb by rw [← hlb]; simp [numsB])
      have HLL := hide_ (show lb.length ≤ 804550 by
        have h3 := HLN.out
        rw [← hlb, List.length_append]
        have := natB_len vr (by omega)
        omega)
      clear hlb
      have HU := hide_ (((((Below.refl wr.heap.size wr).alloc (Nat.le_refl _) (.cells #[.int .i64 vr, .slice vA vn vc] 77))).alloc (by simp) (.cells #[.int .i64 vr] 3)).drew)
      have HSU := hide_ (sees_nums_drew (w := wr.alloc (.cells #[.int .i64 vr, .slice vA vn vc] 77)) [vr] #[.int .i64 vr] 3 (wr.heap.size + 1) (by simp) rfl)
      have HX0 := hide_ (show BoxAt (wr.alloc (.cells #[.int .i64 vr, .slice vA vn vc] 77)).drew wr.heap.size #[.int .i64 vr, .slice vA vn vc] 77 from BoxAt.new wr _ _)
      have HX1 := hide_ (show BoxAt ((wr.alloc (.cells #[.int .i64 vr, .slice vA vn vc] 77)).alloc (.cells #[.int .i64 vr] 3)).drew wr.heap.size #[.int .i64 vr, .slice vA vn vc] 77 from HX0.out.alloc (.cells #[.int .i64 vr] 3))
      have HBU := hide_ (hbw.trans ((HU.out).mono (by omega)))
      go_wp2
      go_region_held_law (fun w' => Hid (BoxAt w' wr.heap.size #[.int .i64 vr, .slice vA vn vc] 77) ∧ (∀ i : Nat, w'.cell? ⟨wr.heap.size, i, none⟩ = (#[.int .i64 vr, .slice vA vn vc] : Array Value)[i]?))
        (first | exact ⟨HX0, HX0.out.cell⟩ | exact ⟨HX1, HX1.out.cell⟩ | exact ⟨HX2, HX2.out.cell⟩ | exact ⟨HX3, HX3.out.cell⟩)
        (first | (go_simp; go_at_call 33; refine (putNums_at la lb [vr] base _ 1 _ wr _ _ (by simp) HU.out HSU.out (by omega) HLA.out rfl (by omega) (by intro x hx; simp at hx; subst hx; omega) (by have := HLN.out; omega) HK.out.own (by omega)).mono ?_; rintro en w5 ⟨A5, c5, rfl, hst5⟩; (have HST5 := hide_ (RowStep.fresh HU.out hst5)); (have HX2 := hide_ (HX1.out.step (by decide) (own_below HK.out.own HU.out) hst5)); (have HB5 := hide_ (HST5.out.below HK.out.own hB (by omega))); clear hst5) | (go_simp; go_at_call 74; refine (putFormula_any lb l2 ⟨vA, vc, vl⟩ vn HVN.out base _ B _ HX.out.symm (by have := HLL.out; omega) (by rw [HVN.out]; omega) (toks_stable.below HV.out HB5.out) hB HST5.out.own (by have := HST5.out.grow.size; omega)).mono ?_; rintro en w6 ⟨A6, c6, rfl, hst6⟩; (have HST6 := hide_ (HST5.out.trans hst6)); (have HX3 := hide_ (HX2.out.step (by decide) HST5.out.own hst6)); clear hst6))
      go_wp2
      go_roundw
      case rel => exact ⟨k + 1, by omega, by go_num, hide_ (by rw [HL2.out]; exact HK.out.trans HST6.out), hide_ (HXR.out.step (by decide) HK.out.own HST6.out)⟩
      case measure => simp [intOf]; omega
    · obtain rfl : k = sn := by omega
      have HK4 := hide_ (show RowStep base v w _ wr r4 by
        have h := HK.out
        rwa [← HSN.out, List.take_length, HR4.out] at h)
      obtain ⟨A4, c4, hA4⟩ := own_slice HK4.out.own
      subst hA4
      have hcx4 := HXR.out.cell
      have hz4 : w.heap.size < wr.heap.size := HXR.out.lt
      have HU4 := hide_ ((Below.refl wr.heap.size wr).alloc (Nat.le_refl _) (.cells #[.int .i64 ee] 3))
      have HSU4 := hide_ (sees_nums_z (w := wr) [(ee : Int)] #[.int .i64 ee] 3 _ rfl rfl)
      clear HK HST1 HST2 HST3 HX1 HX2 HX3 HXR1 HU1 HSU1 HU2 HSU2 hbw
      go_wp2_with fail
      refine (putNums_at r4 r5 [(ee : Int)] base _ 1 _ wr _ _ (by simp) HU4.out HSU4.out (Nat.le_refl _) HR5.out rfl (by omega) (by intro y hy; simp at hy; subst hy; omega) (by omega) HK4.out.own (by omega)).mono ?_
      rintro en w5 ⟨A5, c5, rfl, hst5⟩
      have HX5 := hide_ ((HXR.out.alloc _).step (by decide) (own_below HK4.out.own HU4.out) hst5)
      have HST5 := hide_ (HK4.out.trans (RowStep.fresh HU4.out hst5))
      clear hst5 hcx4
      have hz5 : w.heap.size < w5.heap.size := HX5.out.lt
      have hcx5 := HX5.out.cell
      go_wp2
      clear hcx5
      go_loopw [0, 55] (fun b i wq => ∃ (j : Nat), j ≤ ee ∧ i = .int .i64 j ∧ Hid (RowStep base v w b wq (r5 ++ (el.take j).flatMap emBy))) (fun _ i _ => ee - (intOf i).toNat)
      case atStart => exact ⟨0, Nat.zero_le _, rfl, hide_ (by simpa using HST5.out)⟩
      case round =>
        obtain ⟨j, hj, rfl, HK⟩ := hrel
        have hzw' : w.heap.size ≤ wr.heap.size := HK.out.grow.size
        have hbw : Below B w wr := HK.out.below HO.out hB (by omega)
        by_cases hltj : j < ee
        · have hs1 := (ems_stable.below HEM.out hbw).2.2.1
          obtain ⟨x, hx⟩ : ∃ x, el[j]? = some x := ⟨_, List.getElem?_eq_getElem (by rw [HEN.out]; exact hltj)⟩
          obtain ⟨tb, ot, rfl, hab, h0, h1, h2⟩ := hs1.em hx
          have hwz : tb < wr.heap.size := by omega
          have hxo := em_stable.below (HEM.out.2.2.2 x (List.mem_of_getElem? hx)) hbw
          have hxp := HEP.out x (List.mem_of_getElem? hx)
          have hx24 := HE24.out x (List.mem_of_getElem? hx)
          have HX := hide_ (show r5 ++ (el.take (j + 1)).flatMap emBy = ((r5 ++ (el.take j).flatMap emBy) ++ (natB x.tg ++ natB x.ac)) ++ fmlB x.arg.l by
            rw [flat_snoc hx]
            unfold emBy
            simp only [List.append_assoc])
          have HLN := hide_ (show (r5 ++ (el.take j).flatMap emBy).length ≤ 806590 by
            have h1 := flat_take_le (f := emBy) (q := 510) el (fun z hz => emBy_len (HEM.out.2.2.2 z hz) (HE24.out z hz)) j
            rw [HEN.out] at h1
            rw [List.length_append]
            omega)
          obtain ⟨tg, ac, ⟨vA, vc, vl⟩⟩ := x
          obtain ⟨vn, hvn⟩ : ∃ vn, vl.length = vn := ⟨_, rfl⟩
          simp only [hvn] at h0 h1 h2 hxp hx24 HX
          have HVN := hide_ hvn
          have hv1 : 0 ≤ tg := hxo.1.1
          have hv2 : tg ≤ 255 := hxo.1.2
          have hv3 : ac ≤ 9223372036854775807 := hxo.2.1.2
          have HV := hide_ hxo.2.2
          obtain ⟨l2, hl2⟩ : ∃ l2, r5 ++ (el.take (j + 1)).flatMap emBy = l2 := ⟨_, rfl⟩
          rw [hl2] at HX
          have HL2 := hide_ hl2
          clear hl2 hx hs1 hvn hxo
          generalize r5 ++ (el.take j).flatMap emBy = la at HX HLN HK
          obtain ⟨lb, hlb⟩ : ∃ lb, la ++ (natB tg ++ natB ac) = lb := ⟨_, rfl⟩
          rw [hlb] at HX
          have HLA := hide_ (show la ++ numsB [tg, ac] = lb by rw [← hlb]; simp [numsB])
          have HLL := hide_ (show lb.length ≤ 806610 by
            have h3 := HLN.out
            rw [← hlb, List.length_append, List.length_append]
            have := natB_len tg (by omega)
            have := natB_len ac (by omega)
            omega)
          clear hlb
          have hwo : IntKind.i64.wrap tg = tg := IntWalk.i64_in _ (by omega)
          have HU := hide_ (((((Below.refl wr.heap.size wr).alloc (Nat.le_refl _) (.cells #[.int .u8 tg, .int .i64 ac, .slice vA vn vc] 79))).alloc (by simp) (.cells #[.int .i64 tg, .int .i64 ac] 3)).drew)
          have HSU := hide_ (sees_nums_drew (w := wr.alloc (.cells #[.int .u8 tg, .int .i64 ac, .slice vA vn vc] 79)) [tg, ac] #[.int .i64 tg, .int .i64 ac] 3 (wr.heap.size + 1) (by simp) rfl)
          have HX0 := hide_ (show BoxAt (wr.alloc (.cells #[.int .u8 tg, .int .i64 ac, .slice vA vn vc] 79)).drew wr.heap.size #[.int .u8 tg, .int .i64 ac, .slice vA vn vc] 79 from BoxAt.new wr _ _)
          have HX1 := hide_ (show BoxAt ((wr.alloc (.cells #[.int .u8 tg, .int .i64 ac, .slice vA vn vc] 79)).alloc (.cells #[.int .i64 tg, .int .i64 ac] 3)).drew wr.heap.size #[.int .u8 tg, .int .i64 ac, .slice vA vn vc] 79 from HX0.out.alloc (.cells #[.int .i64 tg, .int .i64 ac] 3))
          go_wp2
          go_region_held_law (fun w' => Hid (BoxAt w' wr.heap.size #[.int .u8 tg, .int .i64 ac, .slice vA vn vc] 79) ∧ (∀ i : Nat, w'.cell? ⟨wr.heap.size, i, none⟩ = (#[.int .u8 tg, .int .i64 ac, .slice vA vn vc] : Array Value)[i]?))
            (first | exact ⟨HX0, HX0.out.cell⟩ | exact ⟨HX1, HX1.out.cell⟩ | exact ⟨HX2, HX2.out.cell⟩ | exact ⟨HX3, HX3.out.cell⟩)
            (first | (go_simp; go_at_call 33; refine (putNums_at la lb [tg, ac] base _ 2 _ wr _ _ (by simp) HU.out HSU.out (by omega) HLA.out rfl (by omega) (by intro x hx; simp at hx; rcases hx with rfl | rfl <;> omega) (by have := HLN.out; omega) HK.out.own (by omega)).mono ?_; rintro en w7 ⟨A7, c7, rfl, hst7⟩; (have HST7 := hide_ (RowStep.fresh HU.out hst7)); (have HX2 := hide_ (HX1.out.step (by decide) (own_below HK.out.own HU.out) hst7)); (have HB7 := hide_ (HST7.out.below HK.out.own hB (by omega))); clear hst7) | (go_simp; go_at_call 74; refine (putFormula_any lb l2 ⟨vA, vc, vl⟩ vn HVN.out base _ B _ HX.out.symm (by have := HLL.out; omega) (by rw [HVN.out]; omega) (toks_stable.below HV.out HB7.out) hB HST7.out.own (by have := HST7.out.grow.size; omega)).mono ?_; rintro en w8 ⟨A8, c8, rfl, hst8⟩; (have HST8 := hide_ (HST7.out.trans hst8)); (have HX3 := hide_ (HX2.out.step (by decide) HST7.out.own hst8)); clear hst8))
          go_wp2
          go_roundw
          case rel => exact ⟨j + 1, by omega, by go_num, hide_ (by rw [HL2.out]; exact HK.out.trans HST8.out)⟩
          case measure => simp [intOf]; omega
        · obtain rfl : j = ee := by omega
          have HK2 := hide_ (show RowStep base v w _ wr r by
            have h := HK.out
            rwa [← HEN.out, List.take_length, HR6.out] at h)
          clear HK
          obtain ⟨A9, c9, hA9⟩ := own_slice HK2.out.own
          subst hA9
          go_wp2
          go_ret
          exact ⟨_, _, rfl, HK2.out⟩
end Go.Proofs.Ytkjgplcfoihohaa
