/-
  Texts of this claim put together: RefBytes6.
-/
import Derived.Test.YtnkjdijbfnmnhaaGreatJ41
import Derived.Test.YtnkjdijbfnmnhaaGreatJ05
import Derived.IntWalk
import Derived.Deep.RegionHeld
/-
  Contracts of layer 6's reference's num, vars and Bytes: what is put stands behind bytes of one's own.
-/
namespace Go.Proofs.YtnkjdijbfnmnhaaGreat
open Go.RowKit

theorem step_below {base : Nat} {v0 v : Value} {w0 w w1 : World} {r : List UInt8} (h : RowStep base v0 w0 v w r) (hb : Below w.heap.size w w1) : RowStep base v0 w0 v w1 r :=
  h.trans (RowStep.fresh hb (RowStep.refl (own_below h.own hb)))

set_option maxRecDepth 100000 in
theorem num6_any (l r : List UInt8) (n : Int) (base : Nat) (v : Value) (w : World) (hres : l ++ natB n = r) (hn : U64 n) (hl : l.length ≤ 1000000)
    (hown : w.ownsRow base 5 1 v l.length (bv l)) (hbase : base ≤ w.heap.size) :
    Calls Tryz.prog 123 #[v, .int .u64 n] w (PutsOn base v r w) := by
  obtain ⟨y, rfl⟩ := Int.eq_ofNat_of_zero_le hn.1
  have HY := hide_ (show y < 18446744073709551616 by have := hn.2; omega)
  have HO := hide_ hown
  have HR := hide_ (show l ++ numB y = r from hres)
  have HNL := hide_ (numB_length y HY.out)
  clear hown hres hn
  go_enter Tryz.func123, Tryz.ntmps123
  go_wp2_with fail
  refine (refNum_any y (numB y) _ rfl HY.out).mono ?_
  rintro en w2 ⟨A2, c2, rfl, hown2, hb2⟩
  have HB2 := hide_ hb2
  have HO2 := hide_ hown2
  clear hb2 hown2
  go_wp2_with (at_builtin; refine wpList_append_row _ rfl _ _ 50 rfl base u8_info Tryz.underlying50 _ l (numB y) r HR.out rfl (own_below HO.out HB2.out) w2.heap.size A2 (numB y).length c2 rfl rfl (Sees.own HO2.out) ⟨by omega, by have := HNL.out; omega⟩ (by have := HB2.out.size; omega) ?_; intro A3 c3 w3 hst; have HST := hide_ (RowStep.fresh HB2.out hst); clear hst)
  go_ret
  exact ⟨_, _, rfl, HST.out⟩

set_option maxRecDepth 100000 in
set_option maxHeartbeats 800000 in
theorem vars6_any (l r : List UInt8) (s : IntS) (n : Nat) (hnn : s.l.length = n) (base : Nat) (v : Value) (B : Nat) (w : World) (hres : l ++ varB s.l = r) (hl : l.length ≤ 900000) (hn : n ≤ 50) (hs : intsOk w B s) (hB : B ≤ base)
    (hown : w.ownsRow base 5 1 v l.length (bv l)) (hbase : base ≤ w.heap.size) :
    Calls Tryz.prog 124 #[v, .slice s.A n s.c] w (PutsOn base v r w) := by
  obtain ⟨A, c, f⟩ := s
  simp only at hnn
  have HS := hide_ hs.2.2.1
  have HT := hide_ hs.2.2.2
  have HN := hide_ hnn
  have HO := hide_ hown
  have HR := hide_ (show (l ++ natB n) ++ (f.take n).flatMap intB = r by
    rw [← hnn, List.take_length, List.append_assoc]
    exact hres)
  have HLE := hide_ (show (l ++ natB n).length ≤ 900010 by rw [List.length_append]; have := natB_len n (by omega); omega)
  clear hs hnn hown hres
  go_enter Tryz.func124, Tryz.ntmps124
  go_wp2_with fail
  refine (num6_any l (l ++ natB n) n base v _ rfl ⟨by omega, by omega⟩ (by omega) HO.out hbase).mono ?_
  rintro en w1 ⟨A1, c1, rfl, hst1⟩
  have HST := hide_ hst1
  clear hst1
  obtain ⟨l1, hl1⟩ : ∃ l1, l ++ natB n = l1 := ⟨_, rfl⟩
  rw [hl1] at HST HR HLE
  rw [hl1]
  clear hl1
  go_wp2
  go_loopw [0, 13] (fun b i wr => ∃ (k : Nat), k ≤ n ∧ i = .int .i64 k ∧ Hid (RowStep base v w b wr (l1 ++ (f.take k).flatMap intB))) (fun _ i _ => n - (intOf i).toNat)
  case atStart => exact ⟨0, Nat.zero_le _, rfl, hide_ (by simpa using HST.out)⟩
  case round =>
    obtain ⟨k, hk, rfl, HK⟩ := hrel
    have hzw : w.heap.size ≤ wr.heap.size := HK.out.grow.size
    have hbw : Below B w wr := HK.out.below HO.out hB (by omega)
    by_cases hlt : k < n
    · have hs1 := HS.out.below hbw
      obtain ⟨x, hx⟩ : ∃ x, f[k]? = some x := ⟨_, List.getElem?_eq_getElem (by rw [HN.out]; exact hlt)⟩
      obtain ⟨tb, ot, rfl, hab, h0⟩ := hs1.i64 hx
      have hwz : tb < wr.heap.size := by omega
      have HI := hide_ (HT.out x (List.mem_of_getElem? hx))
      have HX := hide_ (show l1 ++ (f.take (k + 1)).flatMap intB = (l1 ++ (f.take k).flatMap intB) ++ intB x by
        rw [flat_snoc hx]
        simp only [List.append_assoc])
      have HLN := hide_ (show (l1 ++ (f.take k).flatMap intB).length ≤ 950000 by
        have h1 := flat_take_le (f := intB) (q := 10) f (fun z hz => intB_len z (HT.out z hz)) k
        have h2 := HLE.out
        rw [HN.out] at h1
        rw [List.length_append]
        omega)
      obtain ⟨l2, hl2⟩ : ∃ l2, l1 ++ (f.take (k + 1)).flatMap intB = l2 := ⟨_, rfl⟩
      rw [hl2] at HX
      have HL2 := hide_ hl2
      clear hl2 hx hs1
      generalize l1 ++ (f.take k).flatMap intB = la at HX HLN HK
      have HLL := hide_ (intB_len x HI.out)
      have HBW := hide_ hbw
      clear hbw
      go_wp2_with fail
      refine (refInt_any x (intB x) _ rfl HI.out.1 HI.out.2).mono ?_
      rintro en w3 ⟨A3, c3, rfl, hown3, hb3⟩
      have HB3 := hide_ hb3
      have HO3 := hide_ hown3
      clear hb3 hown3 h0
      go_wp2_with (at_builtin; refine wpList_append_row _ rfl _ _ 50 rfl base u8_info Tryz.underlying50 _ la (intB x) l2 HX.out.symm rfl (own_below HK.out.own HB3.out) w3.heap.size A3 (intB x).length c3 rfl rfl (Sees.own HO3.out) ⟨by have := HLN.out; omega, by have := HLL.out; omega⟩ (by have := HB3.out.size; omega) ?_; intro A4 c4 w4 hst4; have HST4 := hide_ (HK.out.trans (RowStep.fresh HB3.out hst4)); clear hst4)
      go_roundw
      case rel => exact ⟨k + 1, by omega, by go_num, hide_ (by rw [HL2.out]; exact HST4.out)⟩
      case measure => simp [intOf]; omega
    · obtain rfl : k = n := by omega
      have HK2 := hide_ (HR.out ▸ HK.out)
      clear HK
      obtain ⟨A3, c3, hA3⟩ := own_slice HK2.out.own
      subst hA3
      go_wp2
      go_ret
      exact ⟨_, _, rfl, HK2.out⟩

set_option maxRecDepth 100000 in
set_option maxHeartbeats 25600000 in
theorem refBytes6_any (r : RegM) (B : Nat) (w : World) (hr : RegM.ok w B r) (hB : B ≤ w.heap.size) (hmy : mayG r.p = true) :
    Calls Tryz.prog 55 #[r.v] w fun e w' => ∃ A c, e = .returned (.slice A (regB r.p).length c) ∧ w'.ownsRow w.heap.size 5 1 (.slice A (regB r.p).length c) (regB r.p).length (bv (regB r.p)) ∧ Below w.heap.size w w' := by
  have HX := hide_ (BoxAt.new w r.box 31)
  have HW := hide_ ((Below.refl w.heap.size w).alloc (Nat.le_refl _) (.cells r.box 31))
  have HV := hide_ (fun (u : World) (hb : Below w.heap.size w u) => ints_stable.below hr.2.1 (hb.mono hB))
  have HD := hide_ (fun (u : World) (hb : Below w.heap.size w u) => dns_stable.below hr.2.2.1 (hb.mono hB))
  have HO := hide_ (fun (u : World) (hb : Below w.heap.size w u) => cels_stable.below hr.2.2.2.1 (hb.mono hB))
  have HM := hide_ (fun (u : World) (hb : Below w.heap.size w u) => mrks_stable.below hr.2.2.2.2 (hb.mono hB))
  have hki := hr.1.1
  have hinc := hr.1.2.1
  have hla := hr.1.2.2.2
  unfold U8 at hki
  have hst9 : r.p.ki ≠ 0 → (0 ≤ r.st ∧ r.st ≤ 31) ∧ r.va.l.length ≤ 8 ∧ r.dn.l.length ≤ 8 ∧ (∀ d ∈ r.dn.l, (0 ≤ d.er ∧ d.er ≤ 99) ∧ (0 ≤ d.st ∧ d.st ≤ 31) ∧ d.va.l.length ≤ 8) ∧ r.ou.l.length ≤ 8 ∧ (∀ c ∈ r.ou.l, 0 ≤ c.2.2.1 ∧ c.2.2.1 ≤ 31) ∧ r.ma.l.length ≤ 16 := fun h0 => by
    obtain ⟨-, ⟨hst, hva⟩, ⟨hdl, hdc⟩, ⟨hol, hoc⟩, hml⟩ := stn_parts (may_stn hmy h0).1
    simp only [RegM.p, List.length_map] at hst hva hdl hol hoc hml
    exact ⟨hst, hva, hdl, fun d hd => (hdc d.p (List.mem_map_of_mem hd)).2, hol, hoc, hml⟩
  have HB9 := hide_ (show regB r.p = natB r.ki ++ (if r.ki = 0 then [] else natB r.inc ++ (natB r.st ++ (varB r.va.l ++ ((natB r.dn.l.length ++ r.dn.l.flatMap (fun d => donB d.p)) ++ ((natB r.ou.l.length ++ r.ou.l.flatMap celB) ++ (natB r.la ++ (natB r.ma.l.length ++ r.ma.l.flatMap mrkB))))))) by
    unfold regB RegM.p
    simp only [List.length_map, List.flatMap_map])
  obtain ⟨bs, hbs⟩ : ∃ bs, regB r.p = bs := ⟨_, rfl⟩
  rw [hbs] at HB9
  rw [hbs]
  have HS9 := hide_ hst9
  clear hr hmy hst9 hbs
  obtain ⟨ki, inc, st, ⟨vA, vc, vl⟩, ⟨dA, dc, dl⟩, ⟨oA, oc, ol⟩, la, ⟨mA, mc, ml⟩⟩ := r
  obtain ⟨nv, hnv⟩ : ∃ n, vl.length = n := ⟨_, rfl⟩
  obtain ⟨nd, hnd⟩ : ∃ n, dl.length = n := ⟨_, rfl⟩
  obtain ⟨no, hno⟩ : ∃ n, ol.length = n := ⟨_, rfl⟩
  obtain ⟨nm, hnm⟩ : ∃ n, ml.length = n := ⟨_, rfl⟩
  simp only [RegM.v, RegM.box, RegM.p, Sl.v, hnv, hnd, hno, hnm] at HX HW HB9 HS9 hki hinc hla ⊢
  have HNV := hide_ hnv
  have HND := hide_ hnd
  have HNO := hide_ hno
  have HNM := hide_ hnm
  have HINC := hide_ hinc
  have HLA := hide_ hla
  have hki0 := hki.1
  have hki1 := hki.2
  have zk : IntKind.u64.wrap ki = ki := IntWalk.u64_in _ ⟨by omega, by omega⟩
  clear hnv hnd hno hnm hinc hla hki
  obtain ⟨q1, hq1⟩ : ∃ q, ([] : List UInt8) ++ natB ki = q := ⟨_, rfl⟩
  have HQ1 := hide_ hq1
  have HL1 := hide_ (show q1.length ≤ 10 by rw [← hq1]; simpa using natB_len ki (by omega))
  clear hq1
  obtain ⟨W0, hW0⟩ : ∃ W0, (w.alloc (.cells #[.int .u8 ki, .int .u64 inc, .int .i64 st, .slice vA nv vc, .slice dA nd dc, .slice oA no oc, .int .u64 la, .slice mA nm mc] 31)).alloc (.cells #[] 5) = W0 := ⟨_, rfl⟩
  have HO0 := hide_ (show W0.ownsRow (w.heap.size + 1) 5 1 (.slice (some ⟨w.heap.size + 1, 0, none⟩) 0 0) ([] : List UInt8).length (bv []) by
    have h := World.ownsRow_lit (base := w.heap.size + 1) (e := 5) (size := 1) (w.alloc (.cells #[.int .u8 ki, .int .u64 inc, .int .i64 st, .slice vA nv vc, .slice dA nd dc, .slice oA no oc, .int .u64 la, .slice mA nm mc] 31)) #[] 0 (by simp) (by simp [maxLen]) (by simp)
    have h2 : ((w.alloc (.cells #[.int .u8 ki, .int .u64 inc, .int .i64 st, .slice vA nv vc, .slice dA nd dc, .slice oA no oc, .int .u64 la, .slice mA nm mc] 31)).alloc (.cells #[] 5)).ownsRow (w.heap.size + 1) 5 1 (.slice (some ⟨w.heap.size + 1, 0, none⟩) 0 0) ([] : List UInt8).length (bv []) := by simpa [bv] using h
    rw [hW0] at h2
    exact h2)
  have HX0 := hide_ (show BoxAt W0 w.heap.size #[.int .u8 ki, .int .u64 inc, .int .i64 st, .slice vA nv vc, .slice dA nd dc, .slice oA no oc, .int .u64 la, .slice mA nm mc] 31 from hW0 ▸ HX.out.alloc _)
  have HBW0 := hide_ (show Below w.heap.size w W0 from hW0 ▸ HW.out.alloc (by simp) _)
  have HZ0 := hide_ (show w.heap.size + 2 = W0.heap.size from by rw [← hW0]; simp)
  have HBF := hide_ (fun (u : World) (v' : Value) (rr : List UInt8) (h : RowStep (w.heap.size + 1) (.slice (some ⟨w.heap.size + 1, 0, none⟩) 0 0) W0 v' u rr) => show Below w.heap.size w u from HBW0.out.trans (h.below (r0 := []) HO0.out (by omega) (by have := HZ0.out; omega)))
  have HSF := hide_ (fun (u : World) (v' : Value) (rr : List UInt8) (h : RowStep (w.heap.size + 1) (.slice (some ⟨w.heap.size + 1, 0, none⟩) 0 0) W0 v' u rr) => show w.heap.size + 1 ≤ u.heap.size from by have := h.grow.size; have := HZ0.out; omega)
  have HW0 := hide_ hW0
  clear hW0
  go_enter Tryz.func55, Tryz.ntmps55
  go_wp2_with fail
  rw [HW0.out]
  refine (num6_any [] q1 ki (w.heap.size + 1) _ _ HQ1.out ⟨hki0, by omega⟩ (by simp) HO0.out (by have := HZ0.out; omega)).mono ?_
  rintro en w2 ⟨A2, c2, rfl, hst⟩
  have HST1 := hide_ hst
  have HX1 := hide_ (HX0.out.step (by decide) HO0.out hst)
  clear hst
  have hz1 : w.heap.size < w2.heap.size := HX1.out.lt
  have hcx := HX1.out.cell
  by_cases k0 : ki = 0
  · subst k0
    have HP := hide_ (show q1 = bs by rw [HB9.out, ← HQ1.out]; simp)
    go_wp2
    go_ret
    rw [← HP.out]
    exact ⟨_, _, rfl, own_mono (base := w.heap.size + 1) (base' := w.heap.size) HST1.out.own (by omega), HBF.out _ _ _ HST1.out⟩
  have hd0 : (ki == 0) = false := beq_eq_false_iff_ne.2 k0
  obtain ⟨hst, hva, hdl, hdc, hol, hoc, hml⟩ := HS9.out k0
  have HDC := hide_ hdc
  have HOC := hide_ hoc
  have hst0 := hst.1
  have hst1 := hst.2
  have zs : IntKind.u64.wrap st = st := IntWalk.u64_in _ ⟨by omega, by omega⟩
  have zd : IntKind.u64.wrap (nd : Int) = nd := IntWalk.u64_in _ ⟨by omega, by omega⟩
  have zo : IntKind.u64.wrap (no : Int) = no := IntWalk.u64_in _ ⟨by omega, by omega⟩
  have zm : IntKind.u64.wrap (nm : Int) = nm := IntWalk.u64_in _ ⟨by omega, by omega⟩
  obtain ⟨q2, hq2⟩ : ∃ q, q1 ++ natB inc = q := ⟨_, rfl⟩
  obtain ⟨q3, hq3⟩ : ∃ q, q2 ++ natB st = q := ⟨_, rfl⟩
  obtain ⟨q4, hq4⟩ : ∃ q, q3 ++ varB vl = q := ⟨_, rfl⟩
  obtain ⟨q5, hq5⟩ : ∃ q, q4 ++ natB nd = q := ⟨_, rfl⟩
  obtain ⟨q6, hq6⟩ : ∃ q, q5 ++ dl.flatMap (fun d => donB d.p) = q := ⟨_, rfl⟩
  obtain ⟨q7, hq7⟩ : ∃ q, q6 ++ natB no = q := ⟨_, rfl⟩
  obtain ⟨q8, hq8⟩ : ∃ q, q7 ++ ol.flatMap celB = q := ⟨_, rfl⟩
  obtain ⟨q9, hq9⟩ : ∃ q, q8 ++ natB la = q := ⟨_, rfl⟩
  obtain ⟨qa, hqa⟩ : ∃ q, q9 ++ natB nm = q := ⟨_, rfl⟩
  have HP := hide_ (show qa ++ ml.flatMap mrkB = bs by
    rw [HB9.out, if_neg k0, ← hqa, ← hq9, ← hq8, ← hq7, ← hq6, ← hq5, ← hq4, ← hq3, ← hq2, ← HQ1.out]
    simp only [List.append_assoc, List.nil_append])
  have hl2 : q2.length ≤ 20 := by rw [← hq2, List.length_append]; have := natU_len inc HINC.out; have := HL1.out; omega
  have hl3 : q3.length ≤ 30 := by rw [← hq3, List.length_append]; have := natB_len st (by omega); omega
  have hl4 : q4.length ≤ 540 := by rw [← hq4, List.length_append]; have := varB_len vl (HV.out _ (HBF.out _ _ _ HST1.out)).2.2.2 (by rw [HNV.out]; omega); omega
  have hl5 : q5.length ≤ 550 := by rw [← hq5, List.length_append]; have := natB_len nd (by omega); omega
  have HDL := hide_ (show ∀ d ∈ dl, (donB d.p).length ≤ 600 from fun d hd => don_len ((HD.out _ (HBF.out _ _ _ HST1.out)).2.2.2 d hd) (HDC.out d hd))
  have HOL := hide_ (show ∀ c ∈ ol, (celB c).length ≤ 50 from fun c hc => cel_len ((HO.out _ (HBF.out _ _ _ HST1.out)).2.2.2 c hc) (HOC.out c hc))
  have HML := hide_ (show ∀ m ∈ ml, (mrkB m).length ≤ 40 from fun m hm => mrk_len ((HM.out _ (HBF.out _ _ _ HST1.out)).2.2.2 m hm))
  have hl6 : q6.length ≤ 5350 := by rw [← hq6, List.length_append]; have := flat_le dl HDL.out; rw [HND.out] at this; omega
  have hl7 : q7.length ≤ 5360 := by rw [← hq7, List.length_append]; have := natB_len no (by omega); omega
  have hl8 : q8.length ≤ 5760 := by rw [← hq8, List.length_append]; have := flat_le ol HOL.out; rw [HNO.out] at this; omega
  have hl9 : q9.length ≤ 5770 := by rw [← hq9, List.length_append]; have := natU_len la HLA.out; omega
  have hla : qa.length ≤ 5780 := by rw [← hqa, List.length_append]; have := natB_len nm (by omega); omega
  have HQ2 := hide_ hq2
  have HL2 := hide_ hl2
  have HQ3 := hide_ hq3
  have HL3 := hide_ hl3
  have HQ4 := hide_ hq4
  have HL4 := hide_ hl4
  have HQ5 := hide_ hq5
  have HL5 := hide_ hl5
  have HQ6 := hide_ hq6
  have HL6 := hide_ hl6
  have HQ7 := hide_ hq7
  have HL7 := hide_ hl7
  have HQ8 := hide_ hq8
  have HL8 := hide_ hl8
  have HQ9 := hide_ hq9
  have HL9 := hide_ hl9
  have HQa := hide_ hqa
  have HLa := hide_ hla
  clear hq2 hq3 hq4 hq5 hq6 hq7 hq8 hq9 hqa hl2 hl3 hl4 hl5 hl6 hl7 hl8 hl9 hla hst hdc hoc k0
  go_upto_region 4 with fail
  try clear hcx
  have HST10 := hide_ (step_below HST1.out (Below.refl _ _).drew)
  have HX10 := hide_ (HX1.out.below (Below.refl _ _).drew)
  refine wp_region_held_drew (S := fun w' => Hid (BoxAt w' w.heap.size #[.int .u8 ki, .int .u64 inc, .int .i64 st, .slice vA nv vc, .slice dA nd dc, .slice oA no oc, .int .u64 la, .slice mA nm mc] 31) ∧ (∀ i : Nat, w'.cell? ⟨w.heap.size, i, none⟩ = (#[.int .u8 ki, .int .u64 inc, .int .i64 st, .slice vA nv vc, .slice dA nd dc, .slice oA no oc, .int .u64 la, .slice mA nm mc] : Array Value)[i]?)) (by kernel_rfl) (⟨HX10, HX10.out.cell⟩) (fun hHeld => ?_)
  refine wpAnyH_take (i := 0) (oi := ⟨some 18, _, _, _, _, _⟩) (v := ?v1) rfl (by kernel_rfl) (by kernel_rfl) (by kernel_rfl) (fun _ _ _ h => h) (Or.inl ⟨by rfl, ?hy1⟩) (by assumption) ?rest1
  case hy1 => intro w hSw; (try dsimp only at hSw); go_simp <;> with_reducible rfl
  simp only [Act.put, List.setIfInBounds_toArray, List.set_cons_zero, List.set_cons_succ]
  refine wpAnyH_take (i := 1) (oi := ⟨some 19, _, _, _, _, _⟩) (v := ?v2) rfl (by kernel_rfl) (by kernel_rfl) (by kernel_rfl) (fun _ _ _ h => h) (Or.inl ⟨by rfl, ?hy2⟩) (by assumption) ?rest2
  case hy2 => intro w hSw; (try dsimp only at hSw); go_simp <;> with_reducible rfl
  simp only [Act.put, List.setIfInBounds_toArray, List.set_cons_zero, List.set_cons_succ]
  refine wpAnyH_take (i := 2) (oi := ⟨some 20, _, _, _, _, _⟩) (v := ?v3) rfl (by kernel_rfl) (by kernel_rfl) (by kernel_rfl) (fun _ _ _ h => h) (Or.inl ⟨by rfl, ?hy3⟩) (by assumption) ?rest3
  case hy3 => intro w hSw; (try dsimp only at hSw); go_simp <;> with_reducible rfl
  simp only [Act.put, List.setIfInBounds_toArray, List.set_cons_zero, List.set_cons_succ]
  refine wpAnyH_take (i := 4) (oi := ⟨some 22, _, _, _, _, _⟩) (v := ?v4) rfl (by kernel_rfl) (by kernel_rfl) (by kernel_rfl) (fun _ _ _ h => h) (Or.inl ⟨by rfl, ?hy4⟩) (by assumption) ?rest4
  case hy4 => intro w hSw; (try dsimp only at hSw); go_simp <;> with_reducible rfl
  simp only [Act.put, List.setIfInBounds_toArray, List.set_cons_zero, List.set_cons_succ]
  refine wpAnyH_take (i := 5) (oi := ⟨some 23, _, _, _, _, _⟩) (v := ?v5) rfl (by kernel_rfl) (by kernel_rfl) (by kernel_rfl) (fun _ _ _ h => h) (Or.inl ⟨by rfl, ?hy5⟩) (by assumption) ?rest5
  case hy5 => intro w hSw; (try dsimp only at hSw); go_simp <;> with_reducible rfl
  simp only [Act.put, List.setIfInBounds_toArray, List.set_cons_zero, List.set_cons_succ]
  refine wpAnyH_take (i := 6) (oi := ⟨some 24, _, _, _, _, _⟩) (v := ?v6) rfl (by kernel_rfl) (by kernel_rfl) (by kernel_rfl) (fun _ _ _ h => h) (Or.inl ⟨by rfl, ?hy6⟩) (by assumption) ?rest6
  case hy6 => intro w hSw; (try dsimp only at hSw); go_simp <;> with_reducible rfl
  simp only [Act.put, List.setIfInBounds_toArray, List.set_cons_zero, List.set_cons_succ]
  refine wpAnyH_take (i := 8) (oi := ⟨some 26, _, _, _, _, _⟩) (v := ?v7) rfl (by kernel_rfl) (by kernel_rfl) (by kernel_rfl) (fun _ _ _ h => h) (Or.inl ⟨by rfl, ?hy7⟩) (by assumption) ?rest7
  case hy7 => intro w hSw; (try dsimp only at hSw); go_simp <;> with_reducible rfl
  simp only [Act.put, List.setIfInBounds_toArray, List.set_cons_zero, List.set_cons_succ]
  refine wpAnyH_take (i := 9) (oi := ⟨some 27, _, _, _, _, _⟩) (v := ?v8) rfl (by kernel_rfl) (by kernel_rfl) (by kernel_rfl) (fun _ _ _ h => h) (Or.inl ⟨by rfl, ?hy8⟩) (by assumption) ?rest8
  case hy8 => intro w hSw; (try dsimp only at hSw); go_simp <;> with_reducible rfl
  simp only [Act.put, List.setIfInBounds_toArray, List.set_cons_zero, List.set_cons_succ]
  refine wpAnyH_ready (rs := [3]) (by kernel_rfl) (by simp) ?_
  refine AllReadyH.cons rfl (fun K hK => ?_) AllReadyH.nil
  go_simp
  go_wp2_with fail
  refine (num6_any q1 q2 inc (w.heap.size + 1) _ _ HQ2.out HINC.out (by have := HL1.out; omega) HST10.out.own (HSF.out _ _ _ HST10.out)).mono ?_
  rintro en w11 ⟨A11, c11, rfl, hst⟩
  have HST11 := hide_ (HST10.out.trans hst)
  have HX11 := hide_ (HX10.out.step (by decide) HST10.out.own hst)
  clear hst
  refine hK.out _ _ (⟨HX11, HX11.out.cell⟩) (fun hHeld => ?_)
  clear hK K
  refine wpAnyH_ready (rs := [7]) (by kernel_rfl) (by simp) ?_
  refine AllReadyH.cons rfl (fun K hK => ?_) AllReadyH.nil
  go_simp
  go_wp2_with fail
  refine (num6_any q2 q3 st (w.heap.size + 1) _ _ HQ3.out ⟨by omega, by omega⟩ (by have := HL2.out; omega) HST11.out.own (HSF.out _ _ _ HST11.out)).mono ?_
  rintro en w12 ⟨A12, c12, rfl, hst⟩
  have HST12 := hide_ (HST11.out.trans hst)
  have HX12 := hide_ (HX11.out.step (by decide) HST11.out.own hst)
  clear hst
  refine hK.out _ _ (⟨HX12, HX12.out.cell⟩) (fun hHeld => ?_)
  clear hK K
  refine wpAnyH_ready (rs := [10]) (by kernel_rfl) (by simp) ?_
  refine AllReadyH.cons rfl (fun K hK => ?_) AllReadyH.nil
  go_simp
  go_wp2_with fail
  refine (vars6_any q3 q4 ⟨vA, vc, vl⟩ nv HNV.out (w.heap.size + 1) _ B _ HQ4.out (by have := HL3.out; omega) (by omega) (HV.out _ (HBF.out _ _ _ HST12.out)) (by omega) HST12.out.own (HSF.out _ _ _ HST12.out)).mono ?_
  rintro en w13 ⟨A13, c13, rfl, hst⟩
  have HST13 := hide_ (HST12.out.trans hst)
  have HX13 := hide_ (HX12.out.step (by decide) HST12.out.own hst)
  clear hst
  refine hK.out _ _ (⟨HX13, HX13.out.cell⟩) (fun hHeld => ?_)
  clear hK K
  refine wpAnyH_take (i := 11) (oi := ⟨some 3, _, _, _, _, _⟩) (v := ?v9) rfl (by kernel_rfl) (by kernel_rfl) (by kernel_rfl) (fun _ _ _ h => h) (Or.inl ⟨by rfl, ?hy9⟩) (by assumption) ?rest9
  case hy9 => intro w hSw; (try dsimp only at hSw); go_simp <;> with_reducible rfl
  simp only [Act.put, List.setIfInBounds_toArray, List.set_cons_zero, List.set_cons_succ]
  refine wpAnyH_done (by kernel_rfl) ?_ _
  have hz14 : w.heap.size < _ := HX13.out.lt
  have hcx := HX13.out.cell
  go_wp2_with fail
  refine (num6_any q4 q5 nd (w.heap.size + 1) _ _ HQ5.out ⟨by omega, by omega⟩ (by have := HL4.out; omega) HST13.out.own (HSF.out _ _ _ HST13.out)).mono ?_
  rintro en w15 ⟨A15, c15, rfl, hst⟩
  have HST15 := hide_ (HST13.out.trans hst)
  have HX15 := hide_ (HX13.out.step (by decide) HST13.out.own hst)
  clear hst hcx
  have hz16 : w.heap.size < _ := HX15.out.lt
  have hcx := HX15.out.cell
  go_wp2
  clear hcx
  go_loopw [3, 38] (fun b i wr => ∃ (k : Nat), k ≤ nd ∧ i = .int .i64 k ∧ Hid (RowStep (w.heap.size + 1) (.slice (some ⟨w.heap.size + 1, 0, none⟩) 0 0) W0 b wr (q5 ++ (dl.take k).flatMap (fun d => donB d.p))) ∧ Hid (BoxAt wr w.heap.size #[.int .u8 ki, .int .u64 inc, .int .i64 st, .slice vA nv vc, .slice dA nd dc, .slice oA no oc, .int .u64 la, .slice mA nm mc] 31)) (fun _ i _ => nd - (intOf i).toNat)
  case atStart => exact ⟨0, Nat.zero_le _, rfl, hide_ (by simpa using HST15.out), HX15.out⟩
  case round =>
    obtain ⟨k, hk, rfl, HK, HXR⟩ := hrel
    have hz : w.heap.size < wr.heap.size := HXR.out.lt
    have hcx := HXR.out.cell
    by_cases hlt : k < nd
    case pos =>
      have hbw := HBF.out _ _ _ HK.out
      obtain ⟨x, hx⟩ : ∃ x, dl[k]? = some x := ⟨_, List.getElem?_eq_getElem (by rw [HND.out]; exact hlt)⟩
      obtain ⟨tb, ot, hAe, hab, e0, e1, e2, e3, e4, e5⟩ := (HD.out _ hbw).2.2.1.done hx
      have hwz : tb < wr.heap.size := by have := hbw.size; omega
      have hxo := (HD.out _ hbw).2.2.2 x (List.mem_of_getElem? hx)
      have HXM := hide_ (List.mem_of_getElem? hx)
      have HXF := hide_ (show q5 ++ (dl.take (k + 1)).flatMap (fun d => donB d.p) = (q5 ++ (dl.take k).flatMap (fun d => donB d.p)) ++ (fun d => donB d.p) x by
        rw [flat_snoc hx]
        simp only [List.append_assoc])
      have HLN := hide_ (show (q5 ++ (dl.take k).flatMap (fun d => donB d.p)).length ≤ 20000 by
        have h1 := flat_take_le (f := (fun d => donB d.p)) (q := 600) dl HDL.out k
        have h2 := HL5.out
        rw [HND.out] at h1
        rw [List.length_append]
        omega)
      obtain ⟨le, hle⟩ : ∃ le, q5 ++ (dl.take (k + 1)).flatMap (fun d => donB d.p) = le := ⟨_, rfl⟩
      rw [hle] at HXF
      have HLE := hide_ hle
      generalize q5 ++ (dl.take k).flatMap (fun d => donB d.p) = lh at HXF HLN HK
      have HBW := hide_ hbw
      clear hle hx hbw
      subst hAe
      obtain ⟨l1, hl1⟩ : ∃ q, lh ++ natB x.cl = q := ⟨_, rfl⟩
      obtain ⟨l2, hl2⟩ : ∃ q, l1 ++ natB x.sq = q := ⟨_, rfl⟩
      obtain ⟨l3, hl3⟩ : ∃ q, l2 ++ natB x.er = q := ⟨_, rfl⟩
      obtain ⟨l4, hl4⟩ : ∃ q, l3 ++ natB x.inc = q := ⟨_, rfl⟩
      obtain ⟨l5, hl5⟩ : ∃ q, l4 ++ natB x.st = q := ⟨_, rfl⟩
      have HPL := hide_ (show l5 ++ varB x.va.l = le by
        rw [HXF.out, ← hl5, ← hl4, ← hl3, ← hl2, ← hl1]
        simp only [donB, DoneM.p, List.append_assoc])
      have hn1 : l1.length ≤ 20010 := by rw [← hl1, List.length_append]; have := natB_len x.cl (by have := hxo.1.1.2; omega); have := HLN.out; omega
      have hn2 : l2.length ≤ 20020 := by rw [← hl2, List.length_append]; have := natU_len x.sq hxo.1.2.1; have := hn1; omega
      have hn3 : l3.length ≤ 20030 := by rw [← hl3, List.length_append]; have := natB_len x.er (by have := (HDC.out x HXM.out).1; omega); have := hn2; omega
      have hn4 : l4.length ≤ 20040 := by rw [← hl4, List.length_append]; have := natU_len x.inc hxo.1.2.2.2.1; have := hn3; omega
      have hn5 : l5.length ≤ 20050 := by rw [← hl5, List.length_append]; have := natB_len x.st (by have := (HDC.out x HXM.out).2.1; omega); have := hn4; omega
      have HL_1 := hide_ hl1
      have HN_1 := hide_ hn1
      have HL_2 := hide_ hl2
      have HN_2 := hide_ hn2
      have HL_3 := hide_ hl3
      have HN_3 := hide_ hn3
      have HL_4 := hide_ hl4
      have HN_4 := hide_ hn4
      have HL_5 := hide_ hl5
      have HN_5 := hide_ hn5
      clear hl1 hn1 hl2 hn2 hl3 hn3 hl4 hn4 hl5 hn5
      have HU1 := hide_ hxo.1.2.1
      have HU2 := hide_ hxo.1.2.2.2.1
      have HVX := hide_ (fun (u : World) (hu : Below w.heap.size w u) => ((HD.out u hu).2.2.2 x HXM.out).2)
      have y0 := hxo.1.1.1
      have y1 := hxo.1.1.2
      have y2 := (HDC.out x HXM.out).1.1
      have y3 := (HDC.out x HXM.out).1.2
      have y4 := (HDC.out x HXM.out).2.1.1
      have y5 := (HDC.out x HXM.out).2.1.2
      have y6 := (HDC.out x HXM.out).2.2
      clear hxo HXM
      obtain ⟨cl, sq, er, in3, st3, ⟨A, c, va⟩⟩ := x
      obtain ⟨na, hna⟩ : ∃ n, va.length = n := ⟨_, rfl⟩
      simp only at HU1 HU2 HVX y0 y1 y2 y3 y4 y5 y6 HPL HXF e0 e1 e2 e3 e4 e5 HL_1 HL_2 HL_3 HL_4 HL_5
      rw [hna] at e5 y6
      have HNA := hide_ hna
      have z1 : IntKind.u64.wrap cl = cl := IntWalk.u64_in _ ⟨by omega, by omega⟩
      have z2 : IntKind.u64.wrap er = er := IntWalk.u64_in _ ⟨by omega, by omega⟩
      have z3 : IntKind.u64.wrap st3 = st3 := IntWalk.u64_in _ ⟨by omega, by omega⟩
      clear hna HXF
      have HBX := hide_ (BoxAt.new wr #[.int .u8 cl, .int .u64 sq, .int .i64 er, .int .u64 in3, .int .i64 st3, .slice A na c] 106)
      have HKX := hide_ (step_below HK.out ((Below.refl _ _).alloc (Nat.le_refl _) (.cells #[.int .u8 cl, .int .u64 sq, .int .i64 er, .int .u64 in3, .int .i64 st3, .slice A na c] 106)))
      have HXRX := hide_ (HXR.out.alloc (.cells #[.int .u8 cl, .int .u64 sq, .int .i64 er, .int .u64 in3, .int .i64 st3, .slice A na c] 106))
      have hcd := HBX.out.cell
      go_upto_region 10 with fail
      try clear hcx
      have HST17 := hide_ (step_below HKX.out (Below.refl _ _).drew)
      have HX17 := hide_ (HXRX.out.below (Below.refl _ _).drew)
      have HBX17 := hide_ (HBX.out.below (Below.refl _ _).drew)
      refine wp_region_held_drew (S := fun w' => Hid (BoxAt w' w.heap.size #[.int .u8 ki, .int .u64 inc, .int .i64 st, .slice vA nv vc, .slice (some ⟨tb, ot, none⟩) nd dc, .slice oA no oc, .int .u64 la, .slice mA nm mc] 31) ∧ (∀ i : Nat, w'.cell? ⟨w.heap.size, i, none⟩ = (#[.int .u8 ki, .int .u64 inc, .int .i64 st, .slice vA nv vc, .slice (some ⟨tb, ot, none⟩) nd dc, .slice oA no oc, .int .u64 la, .slice mA nm mc] : Array Value)[i]?) ∧ (∀ i : Nat, w'.cell? ⟨wr.heap.size, i, none⟩ = (#[.int .u8 cl, .int .u64 sq, .int .i64 er, .int .u64 in3, .int .i64 st3, .slice A na c] : Array Value)[i]?)) (by kernel_rfl) (⟨HX17, HX17.out.cell, HBX17.out.cell⟩) (fun hHeld => ?_)
      refine wpAnyH_take (i := 0) (oi := ⟨some 46, _, _, _, _, _⟩) (v := ?v10) rfl (by kernel_rfl) (by kernel_rfl) (by kernel_rfl) (fun _ _ _ h => h) (Or.inl ⟨by rfl, ?hy10⟩) (by assumption) ?rest10
      case hy10 => intro w hSw; (try dsimp only at hSw); go_simp <;> with_reducible rfl
      simp only [Act.put, List.setIfInBounds_toArray, List.set_cons_zero, List.set_cons_succ]
      refine wpAnyH_take (i := 1) (oi := ⟨some 47, _, _, _, _, _⟩) (v := ?v11) rfl (by kernel_rfl) (by kernel_rfl) (by kernel_rfl) (fun _ _ _ h => h) (Or.inl ⟨by rfl, ?hy11⟩) (by assumption) ?rest11
      case hy11 => intro w hSw; (try dsimp only at hSw); go_simp <;> with_reducible rfl
      simp only [Act.put, List.setIfInBounds_toArray, List.set_cons_zero, List.set_cons_succ]
      refine wpAnyH_take (i := 2) (oi := ⟨some 48, _, _, _, _, _⟩) (v := ?v12) rfl (by kernel_rfl) (by kernel_rfl) (by kernel_rfl) (fun _ _ _ h => h) (Or.inl ⟨by rfl, ?hy12⟩) (by assumption) ?rest12
      case hy12 => intro w hSw; (try dsimp only at hSw); go_simp <;> with_reducible rfl
      simp only [Act.put, List.setIfInBounds_toArray, List.set_cons_zero, List.set_cons_succ]
      refine wpAnyH_take (i := 3) (oi := ⟨some 49, _, _, _, _, _⟩) (v := ?v13) rfl (by kernel_rfl) (by kernel_rfl) (by kernel_rfl) (fun _ _ _ h => h) (Or.inl ⟨by rfl, ?hy13⟩) (by assumption) ?rest13
      case hy13 => intro w hSw; (try dsimp only at hSw); go_simp <;> with_reducible rfl
      simp only [Act.put, List.setIfInBounds_toArray, List.set_cons_zero, List.set_cons_succ]
      refine wpAnyH_take (i := 5) (oi := ⟨some 51, _, _, _, _, _⟩) (v := ?v14) rfl (by kernel_rfl) (by kernel_rfl) (by kernel_rfl) (fun _ _ _ h => h) (Or.inl ⟨by rfl, ?hy14⟩) (by assumption) ?rest14
      case hy14 => intro w hSw; (try dsimp only at hSw); go_simp <;> with_reducible rfl
      simp only [Act.put, List.setIfInBounds_toArray, List.set_cons_zero, List.set_cons_succ]
      refine wpAnyH_take (i := 6) (oi := ⟨some 52, _, _, _, _, _⟩) (v := ?v15) rfl (by kernel_rfl) (by kernel_rfl) (by kernel_rfl) (fun _ _ _ h => h) (Or.inl ⟨by rfl, ?hy15⟩) (by assumption) ?rest15
      case hy15 => intro w hSw; (try dsimp only at hSw); go_simp <;> with_reducible rfl
      simp only [Act.put, List.setIfInBounds_toArray, List.set_cons_zero, List.set_cons_succ]
      refine wpAnyH_take (i := 8) (oi := ⟨some 54, _, _, _, _, _⟩) (v := ?v16) rfl (by kernel_rfl) (by kernel_rfl) (by kernel_rfl) (fun _ _ _ h => h) (Or.inl ⟨by rfl, ?hy16⟩) (by assumption) ?rest16
      case hy16 => intro w hSw; (try dsimp only at hSw); go_simp <;> with_reducible rfl
      simp only [Act.put, List.setIfInBounds_toArray, List.set_cons_zero, List.set_cons_succ]
      refine wpAnyH_take (i := 9) (oi := ⟨some 55, _, _, _, _, _⟩) (v := ?v17) rfl (by kernel_rfl) (by kernel_rfl) (by kernel_rfl) (fun _ _ _ h => h) (Or.inl ⟨by rfl, ?hy17⟩) (by assumption) ?rest17
      case hy17 => intro w hSw; (try dsimp only at hSw); go_simp <;> with_reducible rfl
      simp only [Act.put, List.setIfInBounds_toArray, List.set_cons_zero, List.set_cons_succ]
      refine wpAnyH_take (i := 10) (oi := ⟨some 56, _, _, _, _, _⟩) (v := ?v18) rfl (by kernel_rfl) (by kernel_rfl) (by kernel_rfl) (fun _ _ _ h => h) (Or.inl ⟨by rfl, ?hy18⟩) (by assumption) ?rest18
      case hy18 => intro w hSw; (try dsimp only at hSw); go_simp <;> with_reducible rfl
      simp only [Act.put, List.setIfInBounds_toArray, List.set_cons_zero, List.set_cons_succ]
      refine wpAnyH_take (i := 11) (oi := ⟨some 57, _, _, _, _, _⟩) (v := ?v19) rfl (by kernel_rfl) (by kernel_rfl) (by kernel_rfl) (fun _ _ _ h => h) (Or.inl ⟨by rfl, ?hy19⟩) (by assumption) ?rest19
      case hy19 => intro w hSw; (try dsimp only at hSw); go_simp <;> with_reducible rfl
      simp only [Act.put, List.setIfInBounds_toArray, List.set_cons_zero, List.set_cons_succ]
      refine wpAnyH_ready (rs := [4]) (by kernel_rfl) (by simp) ?_
      refine AllReadyH.cons rfl (fun K hK => ?_) AllReadyH.nil
      go_simp
      go_wp2_with fail
      refine (num6_any lh l1 cl (w.heap.size + 1) _ _ HL_1.out ⟨by omega, by omega⟩ (by have := HLN.out; omega) HST17.out.own (HSF.out _ _ _ HST17.out)).mono ?_
      rintro en w18 ⟨A18, c18, rfl, hst⟩
      have HST18 := hide_ (HST17.out.trans hst)
      have HX18 := hide_ (HX17.out.step (by decide) HST17.out.own hst)
      have HBX18 := hide_ (HBX17.out.step (by decide) HST17.out.own hst)
      clear hst
      refine hK.out _ _ (⟨HX18, HX18.out.cell, HBX18.out.cell⟩) (fun hHeld => ?_)
      clear hK K
      refine wpAnyH_ready (rs := [7]) (by kernel_rfl) (by simp) ?_
      refine AllReadyH.cons rfl (fun K hK => ?_) AllReadyH.nil
      go_simp
      go_wp2_with fail
      refine (num6_any l1 l2 sq (w.heap.size + 1) _ _ HL_2.out HU1.out (by have := HN_1.out; omega) HST18.out.own (HSF.out _ _ _ HST18.out)).mono ?_
      rintro en w19 ⟨A19, c19, rfl, hst⟩
      have HST19 := hide_ (HST18.out.trans hst)
      have HX19 := hide_ (HX18.out.step (by decide) HST18.out.own hst)
      have HBX19 := hide_ (HBX18.out.step (by decide) HST18.out.own hst)
      clear hst
      refine hK.out _ _ (⟨HX19, HX19.out.cell, HBX19.out.cell⟩) (fun hHeld => ?_)
      clear hK K
      refine wpAnyH_ready (rs := [12]) (by kernel_rfl) (by simp) ?_
      refine AllReadyH.cons rfl (fun K hK => ?_) AllReadyH.nil
      go_simp
      go_wp2_with fail
      refine (num6_any l2 l3 er (w.heap.size + 1) _ _ HL_3.out ⟨by omega, by omega⟩ (by have := HN_2.out; omega) HST19.out.own (HSF.out _ _ _ HST19.out)).mono ?_
      rintro en w20 ⟨A20, c20, rfl, hst⟩
      have HST20 := hide_ (HST19.out.trans hst)
      have HX20 := hide_ (HX19.out.step (by decide) HST19.out.own hst)
      have HBX20 := hide_ (HBX19.out.step (by decide) HST19.out.own hst)
      clear hst
      refine hK.out _ _ (⟨HX20, HX20.out.cell, HBX20.out.cell⟩) (fun hHeld => ?_)
      clear hK K
      refine wpAnyH_take (i := 13) (oi := ⟨some 3, _, _, _, _, _⟩) (v := ?v20) rfl (by kernel_rfl) (by kernel_rfl) (by kernel_rfl) (fun _ _ _ h => h) (Or.inl ⟨by rfl, ?hy20⟩) (by assumption) ?rest20
      case hy20 => intro w hSw; (try dsimp only at hSw); go_simp <;> with_reducible rfl
      simp only [Act.put, List.setIfInBounds_toArray, List.set_cons_zero, List.set_cons_succ]
      refine wpAnyH_done (by kernel_rfl) ?_ _
      clear hcd
      go_upto_region 11 with fail
      try clear hcx
      have HST21 := hide_ (step_below HST20.out (Below.refl _ _).drew)
      have HX21 := hide_ (HX20.out.below (Below.refl _ _).drew)
      have HBX21 := hide_ (HBX20.out.below (Below.refl _ _).drew)
      refine wp_region_held_drew (S := fun w' => Hid (BoxAt w' w.heap.size #[.int .u8 ki, .int .u64 inc, .int .i64 st, .slice vA nv vc, .slice (some ⟨tb, ot, none⟩) nd dc, .slice oA no oc, .int .u64 la, .slice mA nm mc] 31) ∧ (∀ i : Nat, w'.cell? ⟨w.heap.size, i, none⟩ = (#[.int .u8 ki, .int .u64 inc, .int .i64 st, .slice vA nv vc, .slice (some ⟨tb, ot, none⟩) nd dc, .slice oA no oc, .int .u64 la, .slice mA nm mc] : Array Value)[i]?) ∧ (∀ i : Nat, w'.cell? ⟨wr.heap.size, i, none⟩ = (#[.int .u8 cl, .int .u64 sq, .int .i64 er, .int .u64 in3, .int .i64 st3, .slice A na c] : Array Value)[i]?)) (by kernel_rfl) (⟨HX21, HX21.out.cell, HBX21.out.cell⟩) (fun hHeld => ?_)
      refine wpAnyH_take (i := 0) (oi := ⟨some 59, _, _, _, _, _⟩) (v := ?v21) rfl (by kernel_rfl) (by kernel_rfl) (by kernel_rfl) (fun _ _ _ h => h) (Or.inl ⟨by rfl, ?hy21⟩) (by assumption) ?rest21
      case hy21 => intro w hSw; (try dsimp only at hSw); go_simp <;> with_reducible rfl
      simp only [Act.put, List.setIfInBounds_toArray, List.set_cons_zero, List.set_cons_succ]
      refine wpAnyH_take (i := 1) (oi := ⟨some 60, _, _, _, _, _⟩) (v := ?v22) rfl (by kernel_rfl) (by kernel_rfl) (by kernel_rfl) (fun _ _ _ h => h) (Or.inl ⟨by rfl, ?hy22⟩) (by assumption) ?rest22
      case hy22 => intro w hSw; (try dsimp only at hSw); go_simp <;> with_reducible rfl
      simp only [Act.put, List.setIfInBounds_toArray, List.set_cons_zero, List.set_cons_succ]
      refine wpAnyH_take (i := 2) (oi := ⟨some 61, _, _, _, _, _⟩) (v := ?v23) rfl (by kernel_rfl) (by kernel_rfl) (by kernel_rfl) (fun _ _ _ h => h) (Or.inl ⟨by rfl, ?hy23⟩) (by assumption) ?rest23
      case hy23 => intro w hSw; (try dsimp only at hSw); go_simp <;> with_reducible rfl
      simp only [Act.put, List.setIfInBounds_toArray, List.set_cons_zero, List.set_cons_succ]
      refine wpAnyH_take (i := 3) (oi := ⟨some 62, _, _, _, _, _⟩) (v := ?v24) rfl (by kernel_rfl) (by kernel_rfl) (by kernel_rfl) (fun _ _ _ h => h) (Or.inl ⟨by rfl, ?hy24⟩) (by assumption) ?rest24
      case hy24 => intro w hSw; (try dsimp only at hSw); go_simp <;> with_reducible rfl
      simp only [Act.put, List.setIfInBounds_toArray, List.set_cons_zero, List.set_cons_succ]
      refine wpAnyH_take (i := 5) (oi := ⟨some 64, _, _, _, _, _⟩) (v := ?v25) rfl (by kernel_rfl) (by kernel_rfl) (by kernel_rfl) (fun _ _ _ h => h) (Or.inl ⟨by rfl, ?hy25⟩) (by assumption) ?rest25
      case hy25 => intro w hSw; (try dsimp only at hSw); go_simp <;> with_reducible rfl
      simp only [Act.put, List.setIfInBounds_toArray, List.set_cons_zero, List.set_cons_succ]
      refine wpAnyH_take (i := 6) (oi := ⟨some 65, _, _, _, _, _⟩) (v := ?v26) rfl (by kernel_rfl) (by kernel_rfl) (by kernel_rfl) (fun _ _ _ h => h) (Or.inl ⟨by rfl, ?hy26⟩) (by assumption) ?rest26
      case hy26 => intro w hSw; (try dsimp only at hSw); go_simp <;> with_reducible rfl
      simp only [Act.put, List.setIfInBounds_toArray, List.set_cons_zero, List.set_cons_succ]
      refine wpAnyH_take (i := 7) (oi := ⟨some 66, _, _, _, _, _⟩) (v := ?v27) rfl (by kernel_rfl) (by kernel_rfl) (by kernel_rfl) (fun _ _ _ h => h) (Or.inl ⟨by rfl, ?hy27⟩) (by assumption) ?rest27
      case hy27 => intro w hSw; (try dsimp only at hSw); go_simp <;> with_reducible rfl
      simp only [Act.put, List.setIfInBounds_toArray, List.set_cons_zero, List.set_cons_succ]
      refine wpAnyH_take (i := 8) (oi := ⟨some 67, _, _, _, _, _⟩) (v := ?v28) rfl (by kernel_rfl) (by kernel_rfl) (by kernel_rfl) (fun _ _ _ h => h) (Or.inl ⟨by rfl, ?hy28⟩) (by assumption) ?rest28
      case hy28 => intro w hSw; (try dsimp only at hSw); go_simp <;> with_reducible rfl
      simp only [Act.put, List.setIfInBounds_toArray, List.set_cons_zero, List.set_cons_succ]
      refine wpAnyH_take (i := 10) (oi := ⟨some 69, _, _, _, _, _⟩) (v := ?v29) rfl (by kernel_rfl) (by kernel_rfl) (by kernel_rfl) (fun _ _ _ h => h) (Or.inl ⟨by rfl, ?hy29⟩) (by assumption) ?rest29
      case hy29 => intro w hSw; (try dsimp only at hSw); go_simp <;> with_reducible rfl
      simp only [Act.put, List.setIfInBounds_toArray, List.set_cons_zero, List.set_cons_succ]
      refine wpAnyH_take (i := 11) (oi := ⟨some 70, _, _, _, _, _⟩) (v := ?v30) rfl (by kernel_rfl) (by kernel_rfl) (by kernel_rfl) (fun _ _ _ h => h) (Or.inl ⟨by rfl, ?hy30⟩) (by assumption) ?rest30
      case hy30 => intro w hSw; (try dsimp only at hSw); go_simp <;> with_reducible rfl
      simp only [Act.put, List.setIfInBounds_toArray, List.set_cons_zero, List.set_cons_succ]
      refine wpAnyH_take (i := 12) (oi := ⟨some 71, _, _, _, _, _⟩) (v := ?v31) rfl (by kernel_rfl) (by kernel_rfl) (by kernel_rfl) (fun _ _ _ h => h) (Or.inl ⟨by rfl, ?hy31⟩) (by assumption) ?rest31
      case hy31 => intro w hSw; (try dsimp only at hSw); go_simp <;> with_reducible rfl
      simp only [Act.put, List.setIfInBounds_toArray, List.set_cons_zero, List.set_cons_succ]
      refine wpAnyH_ready (rs := [4]) (by kernel_rfl) (by simp) ?_
      refine AllReadyH.cons rfl (fun K hK => ?_) AllReadyH.nil
      go_simp
      go_wp2_with fail
      refine (num6_any l3 l4 in3 (w.heap.size + 1) _ _ HL_4.out HU2.out (by have := HN_3.out; omega) HST21.out.own (HSF.out _ _ _ HST21.out)).mono ?_
      rintro en w22 ⟨A22, c22, rfl, hst⟩
      have HST22 := hide_ (HST21.out.trans hst)
      have HX22 := hide_ (HX21.out.step (by decide) HST21.out.own hst)
      have HBX22 := hide_ (HBX21.out.step (by decide) HST21.out.own hst)
      clear hst
      refine hK.out _ _ (⟨HX22, HX22.out.cell, HBX22.out.cell⟩) (fun hHeld => ?_)
      clear hK K
      refine wpAnyH_ready (rs := [9]) (by kernel_rfl) (by simp) ?_
      refine AllReadyH.cons rfl (fun K hK => ?_) AllReadyH.nil
      go_simp
      go_wp2_with fail
      refine (num6_any l4 l5 st3 (w.heap.size + 1) _ _ HL_5.out ⟨by omega, by omega⟩ (by have := HN_4.out; omega) HST22.out.own (HSF.out _ _ _ HST22.out)).mono ?_
      rintro en w23 ⟨A23, c23, rfl, hst⟩
      have HST23 := hide_ (HST22.out.trans hst)
      have HX23 := hide_ (HX22.out.step (by decide) HST22.out.own hst)
      have HBX23 := hide_ (HBX22.out.step (by decide) HST22.out.own hst)
      clear hst
      refine hK.out _ _ (⟨HX23, HX23.out.cell, HBX23.out.cell⟩) (fun hHeld => ?_)
      clear hK K
      refine wpAnyH_ready (rs := [13]) (by kernel_rfl) (by simp) ?_
      refine AllReadyH.cons rfl (fun K hK => ?_) AllReadyH.nil
      go_simp
      go_wp2_with fail
      refine (vars6_any l5 le ⟨A, c, va⟩ na HNA.out (w.heap.size + 1) _ B _ HPL.out (by have := HN_5.out; omega) (by omega) (HVX.out _ (HBF.out _ _ _ HST23.out)) (by omega) HST23.out.own (HSF.out _ _ _ HST23.out)).mono ?_
      rintro en w24 ⟨A24, c24, rfl, hst⟩
      have HST24 := hide_ (HST23.out.trans hst)
      have HX24 := hide_ (HX23.out.step (by decide) HST23.out.own hst)
      have HBX24 := hide_ (HBX23.out.step (by decide) HST23.out.own hst)
      clear hst
      refine hK.out _ _ (⟨HX24, HX24.out.cell, HBX24.out.cell⟩) (fun hHeld => ?_)
      clear hK K
      refine wpAnyH_take (i := 14) (oi := ⟨some 3, _, _, _, _, _⟩) (v := ?v32) rfl (by kernel_rfl) (by kernel_rfl) (by kernel_rfl) (fun _ _ _ h => h) (Or.inl ⟨by rfl, ?hy32⟩) (by assumption) ?rest32
      case hy32 => intro w hSw; (try dsimp only at hSw); go_simp <;> with_reducible rfl
      simp only [Act.put, List.setIfInBounds_toArray, List.set_cons_zero, List.set_cons_succ]
      refine wpAnyH_done (by kernel_rfl) ?_ _
      try clear hcx
      go_wp2_with fail
      go_roundw
      case rel => exact ⟨k + 1, by omega, by go_num, hide_ (by rw [HLE.out]; exact HST24.out), HX24.out⟩
      case measure => simp [intOf]; omega
    have hkn : nd = k := by omega
    subst hkn
    have HSED := hide_ (show RowStep (w.heap.size + 1) (.slice (some ⟨w.heap.size + 1, 0, none⟩) 0 0) W0 _ wr q6 from by
      have h := HK.out
      rw [← HND.out, List.take_length, HQ6.out] at h
      exact h)
    have HXED := hide_ HXR.out
    clear HK HXR hlt hk
    obtain ⟨AD, cD, hAD⟩ := own_slice HSED.out.own
    subst hAD
    go_wp2_with fail
    refine (num6_any q6 q7 no (w.heap.size + 1) _ _ HQ7.out ⟨by omega, by omega⟩ (by have := HL6.out; omega) HSED.out.own (HSF.out _ _ _ HSED.out)).mono ?_
    rintro en w25 ⟨A25, c25, rfl, hst⟩
    have HST25 := hide_ (HSED.out.trans hst)
    have HX25 := hide_ (HXED.out.step (by decide) HSED.out.own hst)
    clear hst hcx hz
    have hz26 : w.heap.size < _ := HX25.out.lt
    have hcx := HX25.out.cell
    go_wp2
    clear hcx
    go_loopw [3, 83] (fun b i wr => ∃ (k : Nat), k ≤ no ∧ i = .int .i64 k ∧ Hid (RowStep (w.heap.size + 1) (.slice (some ⟨w.heap.size + 1, 0, none⟩) 0 0) W0 b wr (q7 ++ (ol.take k).flatMap celB)) ∧ Hid (BoxAt wr w.heap.size #[.int .u8 ki, .int .u64 inc, .int .i64 st, .slice vA nv vc, .slice dA nd dc, .slice oA no oc, .int .u64 la, .slice mA nm mc] 31)) (fun _ i _ => no - (intOf i).toNat)
    case atStart => exact ⟨0, Nat.zero_le _, rfl, hide_ (by simpa using HST25.out), HX25.out⟩
    case round =>
      obtain ⟨k, hk, rfl, HK, HXR⟩ := hrel
      have hz : w.heap.size < wr.heap.size := HXR.out.lt
      have hcx := HXR.out.cell
      by_cases hlt : k < no
      case pos =>
        have hbw := HBF.out _ _ _ HK.out
        obtain ⟨x, hx⟩ : ∃ x, ol[k]? = some x := ⟨_, List.getElem?_eq_getElem (by rw [HNO.out]; exact hlt)⟩
        obtain ⟨tb, ot, hAe, hab, e0, e1, e2, e3⟩ := (HO.out _ hbw).2.2.1.cel hx
        have hwz : tb < wr.heap.size := by have := hbw.size; omega
        have hxo := (HO.out _ hbw).2.2.2 x (List.mem_of_getElem? hx)
        have HXM := hide_ (List.mem_of_getElem? hx)
        have HXF := hide_ (show q7 ++ (ol.take (k + 1)).flatMap celB = (q7 ++ (ol.take k).flatMap celB) ++ celB x by
          rw [flat_snoc hx]
          simp only [List.append_assoc])
        have HLN := hide_ (show (q7 ++ (ol.take k).flatMap celB).length ≤ 20000 by
          have h1 := flat_take_le (f := celB) (q := 50) ol HOL.out k
          have h2 := HL7.out
          rw [HNO.out] at h1
          rw [List.length_append]
          omega)
        obtain ⟨le, hle⟩ : ∃ le, q7 ++ (ol.take (k + 1)).flatMap celB = le := ⟨_, rfl⟩
        rw [hle] at HXF
        have HLE := hide_ hle
        generalize q7 ++ (ol.take k).flatMap celB = lh at HXF HLN HK
        have HBW := hide_ hbw
        clear hle hx hbw
        subst hAe
        obtain ⟨l1, hl1⟩ : ∃ q, lh ++ natB x.1 = q := ⟨_, rfl⟩
        obtain ⟨l2, hl2⟩ : ∃ q, l1 ++ natB x.2.1 = q := ⟨_, rfl⟩
        obtain ⟨l3, hl3⟩ : ∃ q, l2 ++ natB x.2.2.1 = q := ⟨_, rfl⟩
        have HPL := hide_ (show l3 ++ intB x.2.2.2 = le by
          rw [HXF.out, ← hl3, ← hl2, ← hl1]
          simp only [celB, List.append_assoc])
        have hn1 : l1.length ≤ 20010 := by rw [← hl1, List.length_append]; have := natU_len x.1 hxo.1; have := HLN.out; omega
        have hn2 : l2.length ≤ 20020 := by rw [← hl2, List.length_append]; have := natB_len x.2.1 (by have := hxo.2.1.2; omega); have := hn1; omega
        have hn3 : l3.length ≤ 20030 := by rw [← hl3, List.length_append]; have := natB_len x.2.2.1 (by have := HOC.out x HXM.out; omega); have := hn2; omega
        have HL_1 := hide_ hl1
        have HN_1 := hide_ hn1
        have HL_2 := hide_ hl2
        have HN_2 := hide_ hn2
        have HL_3 := hide_ hl3
        have HN_3 := hide_ hn3
        clear hl1 hn1 hl2 hn2 hl3 hn3
        have HU1 := hide_ hxo.1
        have HI4 := hide_ hxo.2.2.2
        have y0 := hxo.2.1.1
        have y1 := hxo.2.1.2
        have y2 := (HOC.out x HXM.out).1
        have y3 := (HOC.out x HXM.out).2
        clear hxo HXM
        obtain ⟨cn, tg, ac, ar⟩ := x
        simp only at HU1 HI4 y0 y1 y2 y3 HPL HXF e0 e1 e2 e3 HL_1 HL_2 HL_3
        have z1 : IntKind.u64.wrap tg = tg := IntWalk.u64_in _ ⟨by omega, by omega⟩
        have z2 : IntKind.u64.wrap ac = ac := IntWalk.u64_in _ ⟨by omega, by omega⟩
        clear HXF
        have HBX := hide_ (BoxAt.new wr #[.int .u64 cn, .int .u8 tg, .int .i64 ac, .int .i64 ar] 108)
        have HKX := hide_ (step_below HK.out ((Below.refl _ _).alloc (Nat.le_refl _) (.cells #[.int .u64 cn, .int .u8 tg, .int .i64 ac, .int .i64 ar] 108)))
        have HXRX := hide_ (HXR.out.alloc (.cells #[.int .u64 cn, .int .u8 tg, .int .i64 ac, .int .i64 ar] 108))
        have hcd := HBX.out.cell
        go_upto_region 18 with fail
        try clear hcx
        have HST27 := hide_ (step_below HKX.out (Below.refl _ _).drew)
        have HX27 := hide_ (HXRX.out.below (Below.refl _ _).drew)
        have HBX27 := hide_ (HBX.out.below (Below.refl _ _).drew)
        refine wp_region_held_drew (S := fun w' => Hid (BoxAt w' w.heap.size #[.int .u8 ki, .int .u64 inc, .int .i64 st, .slice vA nv vc, .slice dA nd dc, .slice (some ⟨tb, ot, none⟩) no oc, .int .u64 la, .slice mA nm mc] 31) ∧ (∀ i : Nat, w'.cell? ⟨w.heap.size, i, none⟩ = (#[.int .u8 ki, .int .u64 inc, .int .i64 st, .slice vA nv vc, .slice dA nd dc, .slice (some ⟨tb, ot, none⟩) no oc, .int .u64 la, .slice mA nm mc] : Array Value)[i]?) ∧ (∀ i : Nat, w'.cell? ⟨wr.heap.size, i, none⟩ = (#[.int .u64 cn, .int .u8 tg, .int .i64 ac, .int .i64 ar] : Array Value)[i]?)) (by kernel_rfl) (⟨HX27, HX27.out.cell, HBX27.out.cell⟩) (fun hHeld => ?_)
        refine wpAnyH_take (i := 0) (oi := ⟨some 91, _, _, _, _, _⟩) (v := ?v33) rfl (by kernel_rfl) (by kernel_rfl) (by kernel_rfl) (fun _ _ _ h => h) (Or.inl ⟨by rfl, ?hy33⟩) (by assumption) ?rest33
        case hy33 => intro w hSw; (try dsimp only at hSw); go_simp <;> with_reducible rfl
        simp only [Act.put, List.setIfInBounds_toArray, List.set_cons_zero, List.set_cons_succ]
        refine wpAnyH_take (i := 1) (oi := ⟨some 92, _, _, _, _, _⟩) (v := ?v34) rfl (by kernel_rfl) (by kernel_rfl) (by kernel_rfl) (fun _ _ _ h => h) (Or.inl ⟨by rfl, ?hy34⟩) (by assumption) ?rest34
        case hy34 => intro w hSw; (try dsimp only at hSw); go_simp <;> with_reducible rfl
        simp only [Act.put, List.setIfInBounds_toArray, List.set_cons_zero, List.set_cons_succ]
        refine wpAnyH_take (i := 2) (oi := ⟨some 93, _, _, _, _, _⟩) (v := ?v35) rfl (by kernel_rfl) (by kernel_rfl) (by kernel_rfl) (fun _ _ _ h => h) (Or.inl ⟨by rfl, ?hy35⟩) (by assumption) ?rest35
        case hy35 => intro w hSw; (try dsimp only at hSw); go_simp <;> with_reducible rfl
        simp only [Act.put, List.setIfInBounds_toArray, List.set_cons_zero, List.set_cons_succ]
        refine wpAnyH_take (i := 4) (oi := ⟨some 95, _, _, _, _, _⟩) (v := ?v36) rfl (by kernel_rfl) (by kernel_rfl) (by kernel_rfl) (fun _ _ _ h => h) (Or.inl ⟨by rfl, ?hy36⟩) (by assumption) ?rest36
        case hy36 => intro w hSw; (try dsimp only at hSw); go_simp <;> with_reducible rfl
        simp only [Act.put, List.setIfInBounds_toArray, List.set_cons_zero, List.set_cons_succ]
        refine wpAnyH_take (i := 5) (oi := ⟨some 96, _, _, _, _, _⟩) (v := ?v37) rfl (by kernel_rfl) (by kernel_rfl) (by kernel_rfl) (fun _ _ _ h => h) (Or.inl ⟨by rfl, ?hy37⟩) (by assumption) ?rest37
        case hy37 => intro w hSw; (try dsimp only at hSw); go_simp <;> with_reducible rfl
        simp only [Act.put, List.setIfInBounds_toArray, List.set_cons_zero, List.set_cons_succ]
        refine wpAnyH_take (i := 6) (oi := ⟨some 97, _, _, _, _, _⟩) (v := ?v38) rfl (by kernel_rfl) (by kernel_rfl) (by kernel_rfl) (fun _ _ _ h => h) (Or.inl ⟨by rfl, ?hy38⟩) (by assumption) ?rest38
        case hy38 => intro w hSw; (try dsimp only at hSw); go_simp <;> with_reducible rfl
        simp only [Act.put, List.setIfInBounds_toArray, List.set_cons_zero, List.set_cons_succ]
        refine wpAnyH_take (i := 8) (oi := ⟨some 99, _, _, _, _, _⟩) (v := ?v39) rfl (by kernel_rfl) (by kernel_rfl) (by kernel_rfl) (fun _ _ _ h => h) (Or.inl ⟨by rfl, ?hy39⟩) (by assumption) ?rest39
        case hy39 => intro w hSw; (try dsimp only at hSw); go_simp <;> with_reducible rfl
        simp only [Act.put, List.setIfInBounds_toArray, List.set_cons_zero, List.set_cons_succ]
        refine wpAnyH_take (i := 9) (oi := ⟨some 100, _, _, _, _, _⟩) (v := ?v40) rfl (by kernel_rfl) (by kernel_rfl) (by kernel_rfl) (fun _ _ _ h => h) (Or.inl ⟨by rfl, ?hy40⟩) (by assumption) ?rest40
        case hy40 => intro w hSw; (try dsimp only at hSw); go_simp <;> with_reducible rfl
        simp only [Act.put, List.setIfInBounds_toArray, List.set_cons_zero, List.set_cons_succ]
        refine wpAnyH_take (i := 10) (oi := ⟨some 101, _, _, _, _, _⟩) (v := ?v41) rfl (by kernel_rfl) (by kernel_rfl) (by kernel_rfl) (fun _ _ _ h => h) (Or.inl ⟨by rfl, ?hy41⟩) (by assumption) ?rest41
        case hy41 => intro w hSw; (try dsimp only at hSw); go_simp <;> with_reducible rfl
        simp only [Act.put, List.setIfInBounds_toArray, List.set_cons_zero, List.set_cons_succ]
        refine wpAnyH_ready (rs := [3]) (by kernel_rfl) (by simp) ?_
        refine AllReadyH.cons rfl (fun K hK => ?_) AllReadyH.nil
        go_simp
        go_wp2_with fail
        refine (num6_any lh l1 cn (w.heap.size + 1) _ _ HL_1.out HU1.out (by have := HLN.out; omega) HST27.out.own (HSF.out _ _ _ HST27.out)).mono ?_
        rintro en w28 ⟨A28, c28, rfl, hst⟩
        have HST28 := hide_ (HST27.out.trans hst)
        have HX28 := hide_ (HX27.out.step (by decide) HST27.out.own hst)
        have HBX28 := hide_ (HBX27.out.step (by decide) HST27.out.own hst)
        clear hst
        refine hK.out _ _ (⟨HX28, HX28.out.cell, HBX28.out.cell⟩) (fun hHeld => ?_)
        clear hK K
        refine wpAnyH_ready (rs := [7]) (by kernel_rfl) (by simp) ?_
        refine AllReadyH.cons rfl (fun K hK => ?_) AllReadyH.nil
        go_simp
        go_wp2_with fail
        refine (num6_any l1 l2 tg (w.heap.size + 1) _ _ HL_2.out ⟨by omega, by omega⟩ (by have := HN_1.out; omega) HST28.out.own (HSF.out _ _ _ HST28.out)).mono ?_
        rintro en w29 ⟨A29, c29, rfl, hst⟩
        have HST29 := hide_ (HST28.out.trans hst)
        have HX29 := hide_ (HX28.out.step (by decide) HST28.out.own hst)
        have HBX29 := hide_ (HBX28.out.step (by decide) HST28.out.own hst)
        clear hst
        refine hK.out _ _ (⟨HX29, HX29.out.cell, HBX29.out.cell⟩) (fun hHeld => ?_)
        clear hK K
        refine wpAnyH_ready (rs := [11]) (by kernel_rfl) (by simp) ?_
        refine AllReadyH.cons rfl (fun K hK => ?_) AllReadyH.nil
        go_simp
        go_wp2_with fail
        refine (num6_any l2 l3 ac (w.heap.size + 1) _ _ HL_3.out ⟨by omega, by omega⟩ (by have := HN_2.out; omega) HST29.out.own (HSF.out _ _ _ HST29.out)).mono ?_
        rintro en w30 ⟨A30, c30, rfl, hst⟩
        have HST30 := hide_ (HST29.out.trans hst)
        have HX30 := hide_ (HX29.out.step (by decide) HST29.out.own hst)
        have HBX30 := hide_ (HBX29.out.step (by decide) HST29.out.own hst)
        clear hst
        refine hK.out _ _ (⟨HX30, HX30.out.cell, HBX30.out.cell⟩) (fun hHeld => ?_)
        clear hK K
        refine wpAnyH_take (i := 12) (oi := ⟨some 3, _, _, _, _, _⟩) (v := ?v42) rfl (by kernel_rfl) (by kernel_rfl) (by kernel_rfl) (fun _ _ _ h => h) (Or.inl ⟨by rfl, ?hy42⟩) (by assumption) ?rest42
        case hy42 => intro w hSw; (try dsimp only at hSw); go_simp <;> with_reducible rfl
        simp only [Act.put, List.setIfInBounds_toArray, List.set_cons_zero, List.set_cons_succ]
        refine wpAnyH_done (by kernel_rfl) ?_ _
        clear hcd
        try clear hcx
        have hcd := HBX30.out.cell
        have hzd := HBX30.out.lt
        go_wp2_with fail
        refine (refInt_any ar (intB ar) _ rfl HI4.out.1 HI4.out.2).mono ?_
        rintro en w31 ⟨A31, c31, rfl, hown3, hb3⟩
        have HB31 := hide_ hb3
        have HO31 := hide_ hown3
        have HX31 := hide_ (HX30.out.below hb3)
        clear hb3 hown3 hcd hzd
        go_wp2_with (at_builtin; refine wpList_append_row _ rfl _ _ 50 rfl (w.heap.size + 1) u8_info Tryz.underlying50 _ l3 (intB ar) le HPL.out rfl (own_below HST30.out.own HB31.out) w31.heap.size A31 (intB ar).length c31 rfl rfl (Sees.own HO31.out) ⟨by have := HN_3.out; omega, by have := intB_len ar HI4.out; omega⟩ (by have := HB31.out.size; have := HSF.out _ _ _ HST30.out; omega) ?_; intro A4 c4 w4 hst4; have HST31 := hide_ (HST30.out.trans (RowStep.fresh HB31.out hst4)); have HXX31 := hide_ (HX31.out.step (by decide) (own_below HST30.out.own HB31.out) hst4); clear hst4)
        go_roundw
        case rel => exact ⟨k + 1, by omega, by go_num, hide_ (by rw [HLE.out]; exact HST31.out), HXX31.out⟩
        case measure => simp [intOf]; omega
      have hkn : no = k := by omega
      subst hkn
      have HSEO := hide_ (show RowStep (w.heap.size + 1) (.slice (some ⟨w.heap.size + 1, 0, none⟩) 0 0) W0 _ wr q8 from by
        have h := HK.out
        rw [← HNO.out, List.take_length, HQ8.out] at h
        exact h)
      have HXEO := hide_ HXR.out
      clear HK HXR hlt hk
      obtain ⟨AO, cO, hAO⟩ := own_slice HSEO.out.own
      subst hAO
      go_upto_region 21 with fail
      try clear hcx
      have HST32 := hide_ (step_below HSEO.out (Below.refl _ _).drew)
      have HX32 := hide_ (HXEO.out.below (Below.refl _ _).drew)
      refine wp_region_held_drew (S := fun w' => Hid (BoxAt w' w.heap.size #[.int .u8 ki, .int .u64 inc, .int .i64 st, .slice vA nv vc, .slice dA nd dc, .slice oA no oc, .int .u64 la, .slice mA nm mc] 31) ∧ (∀ i : Nat, w'.cell? ⟨w.heap.size, i, none⟩ = (#[.int .u8 ki, .int .u64 inc, .int .i64 st, .slice vA nv vc, .slice dA nd dc, .slice oA no oc, .int .u64 la, .slice mA nm mc] : Array Value)[i]?)) (by kernel_rfl) (⟨HX32, HX32.out.cell⟩) (fun hHeld => ?_)
      refine wpAnyH_take (i := 0) (oi := ⟨some 109, _, _, _, _, _⟩) (v := ?v43) rfl (by kernel_rfl) (by kernel_rfl) (by kernel_rfl) (fun _ _ _ h => h) (Or.inl ⟨by rfl, ?hy43⟩) (by assumption) ?rest43
      case hy43 => intro w hSw; (try dsimp only at hSw); go_simp <;> with_reducible rfl
      simp only [Act.put, List.setIfInBounds_toArray, List.set_cons_zero, List.set_cons_succ]
      refine wpAnyH_take (i := 1) (oi := ⟨some 110, _, _, _, _, _⟩) (v := ?v44) rfl (by kernel_rfl) (by kernel_rfl) (by kernel_rfl) (fun _ _ _ h => h) (Or.inl ⟨by rfl, ?hy44⟩) (by assumption) ?rest44
      case hy44 => intro w hSw; (try dsimp only at hSw); go_simp <;> with_reducible rfl
      simp only [Act.put, List.setIfInBounds_toArray, List.set_cons_zero, List.set_cons_succ]
      refine wpAnyH_take (i := 2) (oi := ⟨some 111, _, _, _, _, _⟩) (v := ?v45) rfl (by kernel_rfl) (by kernel_rfl) (by kernel_rfl) (fun _ _ _ h => h) (Or.inl ⟨by rfl, ?hy45⟩) (by assumption) ?rest45
      case hy45 => intro w hSw; (try dsimp only at hSw); go_simp <;> with_reducible rfl
      simp only [Act.put, List.setIfInBounds_toArray, List.set_cons_zero, List.set_cons_succ]
      refine wpAnyH_take (i := 4) (oi := ⟨some 113, _, _, _, _, _⟩) (v := ?v46) rfl (by kernel_rfl) (by kernel_rfl) (by kernel_rfl) (fun _ _ _ h => h) (Or.inl ⟨by rfl, ?hy46⟩) (by assumption) ?rest46
      case hy46 => intro w hSw; (try dsimp only at hSw); go_simp <;> with_reducible rfl
      simp only [Act.put, List.setIfInBounds_toArray, List.set_cons_zero, List.set_cons_succ]
      refine wpAnyH_take (i := 5) (oi := ⟨some 114, _, _, _, _, _⟩) (v := ?v47) rfl (by kernel_rfl) (by kernel_rfl) (by kernel_rfl) (fun _ _ _ h => h) (Or.inl ⟨by rfl, ?hy47⟩) (by assumption) ?rest47
      case hy47 => intro w hSw; (try dsimp only at hSw); go_simp <;> with_reducible rfl
      simp only [Act.put, List.setIfInBounds_toArray, List.set_cons_zero, List.set_cons_succ]
      refine wpAnyH_take (i := 6) (oi := ⟨some 115, _, _, _, _, _⟩) (v := ?v48) rfl (by kernel_rfl) (by kernel_rfl) (by kernel_rfl) (fun _ _ _ h => h) (Or.inl ⟨by rfl, ?hy48⟩) (by assumption) ?rest48
      case hy48 => intro w hSw; (try dsimp only at hSw); go_simp <;> with_reducible rfl
      simp only [Act.put, List.setIfInBounds_toArray, List.set_cons_zero, List.set_cons_succ]
      refine wpAnyH_take (i := 7) (oi := ⟨some 116, _, _, _, _, _⟩) (v := ?v49) rfl (by kernel_rfl) (by kernel_rfl) (by kernel_rfl) (fun _ _ _ h => h) (Or.inl ⟨by rfl, ?hy49⟩) (by assumption) ?rest49
      case hy49 => intro w hSw; (try dsimp only at hSw); go_simp <;> with_reducible rfl
      simp only [Act.put, List.setIfInBounds_toArray, List.set_cons_zero, List.set_cons_succ]
      refine wpAnyH_ready (rs := [3]) (by kernel_rfl) (by simp) ?_
      refine AllReadyH.cons rfl (fun K hK => ?_) AllReadyH.nil
      go_simp
      go_wp2_with fail
      refine (num6_any q8 q9 la (w.heap.size + 1) _ _ HQ9.out HLA.out (by have := HL8.out; omega) HST32.out.own (HSF.out _ _ _ HST32.out)).mono ?_
      rintro en w33 ⟨A33, c33, rfl, hst⟩
      have HST33 := hide_ (HST32.out.trans hst)
      have HX33 := hide_ (HX32.out.step (by decide) HST32.out.own hst)
      clear hst
      refine hK.out _ _ (⟨HX33, HX33.out.cell⟩) (fun hHeld => ?_)
      clear hK K
      refine wpAnyH_ready (rs := [8]) (by kernel_rfl) (by simp) ?_
      refine AllReadyH.cons rfl (fun K hK => ?_) AllReadyH.nil
      go_simp
      go_wp2_with fail
      refine (num6_any q9 qa nm (w.heap.size + 1) _ _ HQa.out ⟨by omega, by omega⟩ (by have := HL9.out; omega) HST33.out.own (HSF.out _ _ _ HST33.out)).mono ?_
      rintro en w34 ⟨A34, c34, rfl, hst⟩
      have HST34 := hide_ (HST33.out.trans hst)
      have HX34 := hide_ (HX33.out.step (by decide) HST33.out.own hst)
      clear hst
      refine hK.out _ _ (⟨HX34, HX34.out.cell⟩) (fun hHeld => ?_)
      clear hK K
      refine wpAnyH_take (i := 9) (oi := ⟨some 3, _, _, _, _, _⟩) (v := ?v50) rfl (by kernel_rfl) (by kernel_rfl) (by kernel_rfl) (fun _ _ _ h => h) (Or.inl ⟨by rfl, ?hy50⟩) (by assumption) ?rest50
      case hy50 => intro w hSw; (try dsimp only at hSw); go_simp <;> with_reducible rfl
      simp only [Act.put, List.setIfInBounds_toArray, List.set_cons_zero, List.set_cons_succ]
      refine wpAnyH_done (by kernel_rfl) ?_ _
      try clear hcx
      clear hz
      have hz35 : w.heap.size < _ := HX34.out.lt
      have hcx := HX34.out.cell
      go_wp2
      clear hcx
      go_loopw [3, 121] (fun b i wr => ∃ (k : Nat), k ≤ nm ∧ i = .int .i64 k ∧ Hid (RowStep (w.heap.size + 1) (.slice (some ⟨w.heap.size + 1, 0, none⟩) 0 0) W0 b wr (qa ++ (ml.take k).flatMap mrkB)) ∧ Hid (BoxAt wr w.heap.size #[.int .u8 ki, .int .u64 inc, .int .i64 st, .slice vA nv vc, .slice dA nd dc, .slice oA no oc, .int .u64 la, .slice mA nm mc] 31)) (fun _ i _ => nm - (intOf i).toNat)
      case atStart => exact ⟨0, Nat.zero_le _, rfl, hide_ (by simpa using HST34.out), HX34.out⟩
      case round =>
        obtain ⟨k, hk, rfl, HK, HXR⟩ := hrel
        have hz : w.heap.size < wr.heap.size := HXR.out.lt
        have hcx := HXR.out.cell
        by_cases hlt : k < nm
        case pos =>
          have hbw := HBF.out _ _ _ HK.out
          obtain ⟨x, hx⟩ : ∃ x, ml[k]? = some x := ⟨_, List.getElem?_eq_getElem (by rw [HNM.out]; exact hlt)⟩
          obtain ⟨tb, ot, hAe, hab, e0, e1, e2⟩ := (HM.out _ hbw).2.2.1.mrk hx
          have hwz : tb < wr.heap.size := by have := hbw.size; omega
          have hxo := (HM.out _ hbw).2.2.2 x (List.mem_of_getElem? hx)
          have HXM := hide_ (List.mem_of_getElem? hx)
          have HXF := hide_ (show qa ++ (ml.take (k + 1)).flatMap mrkB = (qa ++ (ml.take k).flatMap mrkB) ++ mrkB x by
            rw [flat_snoc hx]
            simp only [List.append_assoc])
          have HLN := hide_ (show (qa ++ (ml.take k).flatMap mrkB).length ≤ 20000 by
            have h1 := flat_take_le (f := mrkB) (q := 40) ml HML.out k
            have h2 := HLa.out
            rw [HNM.out] at h1
            rw [List.length_append]
            omega)
          obtain ⟨le, hle⟩ : ∃ le, qa ++ (ml.take (k + 1)).flatMap mrkB = le := ⟨_, rfl⟩
          rw [hle] at HXF
          have HLE := hide_ hle
          generalize qa ++ (ml.take k).flatMap mrkB = lh at HXF HLN HK
          have HBW := hide_ hbw
          clear hle hx hbw
          subst hAe
          obtain ⟨l1, hl1⟩ : ∃ q, lh ++ natB x.1 = q := ⟨_, rfl⟩
          obtain ⟨l2, hl2⟩ : ∃ q, l1 ++ natB x.2.1 = q := ⟨_, rfl⟩
          have HPL := hide_ (show l2 ++ natB x.2.2 = le by
            rw [HXF.out, ← hl2, ← hl1]
            simp only [mrkB, List.append_assoc])
          have hn1 : l1.length ≤ 20010 := by rw [← hl1, List.length_append]; have := natB_len x.1 (by have := hxo.1.2; omega); have := HLN.out; omega
          have hn2 : l2.length ≤ 20020 := by rw [← hl2, List.length_append]; have := natU_len x.2.1 hxo.2.1; have := hn1; omega
          have HL_1 := hide_ hl1
          have HN_1 := hide_ hn1
          have HL_2 := hide_ hl2
          have HN_2 := hide_ hn2
          clear hl1 hn1 hl2 hn2
          have HU1 := hide_ hxo.2.1
          have HU2 := hide_ hxo.2.2
          have y0 := hxo.1.1
          have y1 := hxo.1.2
          clear hxo HXM
          obtain ⟨so, mi, mx⟩ := x
          simp only at HU1 HU2 y0 y1 HPL HXF e0 e1 e2 HL_1 HL_2
          have z1 : IntKind.u64.wrap so = so := IntWalk.u64_in _ ⟨by omega, by omega⟩
          have i5 : (k : Int) < (nm : Int) := by omega
          have i4 : (0 : Int) ≤ (k : Int) := by omega
          clear HXF
          have HEL := hide_ (fun (w' : World) (hu : Below w.heap.size wr w') => show w'.cell? ⟨tb, ot + k * 3, none⟩ = some (.int .u8 so) ∧ w'.cell? ⟨tb, ot + k * 3 + 1, none⟩ = some (.int .u64 mi) ∧ w'.cell? ⟨tb, ot + k * 3 + 2, none⟩ = some (.int .u64 mx) from ⟨(hu.cell (p := ⟨tb, ot + k * 3, none⟩) (by show tb < _; omega)).trans e0, (hu.cell (p := ⟨tb, ot + k * 3 + 1, none⟩) (by show tb < _; omega)).trans e1, (hu.cell (p := ⟨tb, ot + k * 3 + 2, none⟩) (by show tb < _; omega)).trans e2⟩)
          clear e0 e1 e2
          have HBL := hide_ (Below.refl w.heap.size wr)
          go_upto_region 25 with fail
          try clear hcx
          have HST36 := hide_ (step_below HK.out (Below.refl _ _).drew)
          have HX36 := hide_ (HXR.out.below (Below.refl _ _).drew)
          have HBL36 := hide_ (HBL.out.trans (Below.refl _ _).drew)
          refine wp_region_held_drew (S := fun w' => Hid (BoxAt w' w.heap.size #[.int .u8 ki, .int .u64 inc, .int .i64 st, .slice vA nv vc, .slice dA nd dc, .slice oA no oc, .int .u64 la, .slice (some ⟨tb, ot, none⟩) nm mc] 31) ∧ (∀ i : Nat, w'.cell? ⟨w.heap.size, i, none⟩ = (#[.int .u8 ki, .int .u64 inc, .int .i64 st, .slice vA nv vc, .slice dA nd dc, .slice oA no oc, .int .u64 la, .slice (some ⟨tb, ot, none⟩) nm mc] : Array Value)[i]?) ∧ w'.cell? ⟨tb, ot + k * 3, none⟩ = some (.int .u8 so) ∧ w'.cell? ⟨tb, ot + k * 3 + 1, none⟩ = some (.int .u64 mi) ∧ w'.cell? ⟨tb, ot + k * 3 + 2, none⟩ = some (.int .u64 mx)) (by kernel_rfl) (⟨HX36, HX36.out.cell, HEL.out _ HBL36.out⟩) (fun hHeld => ?_)
          refine wpAnyH_take (i := 0) (oi := ⟨some 124, _, _, _, _, _⟩) (v := ?v51) rfl (by kernel_rfl) (by kernel_rfl) (by kernel_rfl) (fun _ _ _ h => h) (Or.inl ⟨by rfl, ?hy51⟩) (by assumption) ?rest51
          case hy51 => intro w hSw; (try dsimp only at hSw); go_simp <;> with_reducible rfl
          simp only [Act.put, List.setIfInBounds_toArray, List.set_cons_zero, List.set_cons_succ]
          refine wpAnyH_take (i := 1) (oi := ⟨some 125, _, _, _, _, _⟩) (v := ?v52) rfl (by kernel_rfl) (by kernel_rfl) (by kernel_rfl) (fun _ _ _ h => h) (Or.inl ⟨by rfl, ?hy52⟩) (by assumption) ?rest52
          case hy52 => intro w hSw; (try dsimp only at hSw); go_simp <;> with_reducible rfl
          simp only [Act.put, List.setIfInBounds_toArray, List.set_cons_zero, List.set_cons_succ]
          refine wpAnyH_take (i := 2) (oi := ⟨some 126, _, _, _, _, _⟩) (v := ?v53) rfl (by kernel_rfl) (by kernel_rfl) (by kernel_rfl) (fun _ _ _ h => h) (Or.inl ⟨by rfl, ?hy53⟩) (by assumption) ?rest53
          case hy53 => intro w hSw; (try dsimp only at hSw); go_simp <;> with_reducible rfl
          simp only [Act.put, List.setIfInBounds_toArray, List.set_cons_zero, List.set_cons_succ]
          refine wpAnyH_take (i := 3) (oi := ⟨some 127, _, _, _, _, _⟩) (v := ?v54) rfl (by kernel_rfl) (by kernel_rfl) (by kernel_rfl) (fun _ _ _ h => h) (Or.inl ⟨by rfl, ?hy54⟩) (by assumption) ?rest54
          case hy54 => intro w hSw; (try dsimp only at hSw); go_simp <;> with_reducible rfl
          simp only [Act.put, List.setIfInBounds_toArray, List.set_cons_zero, List.set_cons_succ]
          refine wpAnyH_take (i := 4) (oi := ⟨some 128, _, _, _, _, _⟩) (v := ?v55) rfl (by kernel_rfl) (by kernel_rfl) (by kernel_rfl) (fun _ _ _ h => h) (Or.inl ⟨by rfl, ?hy55⟩) (by assumption) ?rest55
          case hy55 => intro w hSw; (try dsimp only at hSw); go_simp <;> with_reducible rfl
          simp only [Act.put, List.setIfInBounds_toArray, List.set_cons_zero, List.set_cons_succ]
          refine wpAnyH_take (i := 5) (oi := ⟨some 129, _, _, _, _, _⟩) (v := ?v56) rfl (by kernel_rfl) (by kernel_rfl) (by kernel_rfl) (fun _ _ _ h => h) (Or.inl ⟨by rfl, ?hy56⟩) (by assumption) ?rest56
          case hy56 => intro w hSw; (try dsimp only at hSw); go_simp <;> with_reducible rfl
          simp only [Act.put, List.setIfInBounds_toArray, List.set_cons_zero, List.set_cons_succ]
          refine wpAnyH_take (i := 6) (oi := ⟨some 130, _, _, _, _, _⟩) (v := ?v57) rfl (by kernel_rfl) (by kernel_rfl) (by kernel_rfl) (fun _ _ _ h => h) (Or.inl ⟨by rfl, ?hy57⟩) (by assumption) ?rest57
          case hy57 => intro w hSw; (try dsimp only at hSw); go_simp <;> with_reducible rfl
          simp only [Act.put, List.setIfInBounds_toArray, List.set_cons_zero, List.set_cons_succ]
          refine wpAnyH_take (i := 7) (oi := ⟨some 131, _, _, _, _, _⟩) (v := ?v58) rfl (by kernel_rfl) (by kernel_rfl) (by kernel_rfl) (fun _ _ _ h => h) (Or.inl ⟨by rfl, ?hy58⟩) (by assumption) ?rest58
          case hy58 => intro w hSw; (try dsimp only at hSw); go_simp <;> with_reducible rfl
          simp only [Act.put, List.setIfInBounds_toArray, List.set_cons_zero, List.set_cons_succ]
          refine wpAnyH_take (i := 9) (oi := ⟨some 133, _, _, _, _, _⟩) (v := ?v59) rfl (by kernel_rfl) (by kernel_rfl) (by kernel_rfl) (fun _ _ _ h => h) (Or.inl ⟨by rfl, ?hy59⟩) (by assumption) ?rest59
          case hy59 => intro w hSw; (try dsimp only at hSw); go_simp <;> with_reducible rfl
          simp only [Act.put, List.setIfInBounds_toArray, List.set_cons_zero, List.set_cons_succ]
          refine wpAnyH_take (i := 10) (oi := ⟨some 134, _, _, _, _, _⟩) (v := ?v60) rfl (by kernel_rfl) (by kernel_rfl) (by kernel_rfl) (fun _ _ _ h => h) (Or.inl ⟨by rfl, ?hy60⟩) (by assumption) ?rest60
          case hy60 => intro w hSw; (try dsimp only at hSw); go_simp <;> with_reducible rfl
          simp only [Act.put, List.setIfInBounds_toArray, List.set_cons_zero, List.set_cons_succ]
          refine wpAnyH_take (i := 11) (oi := ⟨some 135, _, _, _, _, _⟩) (v := ?v61) rfl (by kernel_rfl) (by kernel_rfl) (by kernel_rfl) (fun _ _ _ h => h) (Or.inl ⟨by rfl, ?hy61⟩) (by assumption) ?rest61
          case hy61 => intro w hSw; (try dsimp only at hSw); go_simp <;> with_reducible rfl
          simp only [Act.put, List.setIfInBounds_toArray, List.set_cons_zero, List.set_cons_succ]
          refine wpAnyH_take (i := 12) (oi := ⟨some 136, _, _, _, _, _⟩) (v := ?v62) rfl (by kernel_rfl) (by kernel_rfl) (by kernel_rfl) (fun _ _ _ h => h) (Or.inl ⟨by rfl, ?hy62⟩) (by assumption) ?rest62
          case hy62 => intro w hSw; (try dsimp only at hSw); go_simp <;> with_reducible rfl
          simp only [Act.put, List.setIfInBounds_toArray, List.set_cons_zero, List.set_cons_succ]
          refine wpAnyH_take (i := 13) (oi := ⟨some 137, _, _, _, _, _⟩) (v := ?v63) rfl (by kernel_rfl) (by kernel_rfl) (by kernel_rfl) (fun _ _ _ h => h) (Or.inl ⟨by rfl, ?hy63⟩) (by assumption) ?rest63
          case hy63 => intro w hSw; (try dsimp only at hSw); go_simp <;> with_reducible rfl
          simp only [Act.put, List.setIfInBounds_toArray, List.set_cons_zero, List.set_cons_succ]
          refine wpAnyH_take (i := 14) (oi := ⟨some 138, _, _, _, _, _⟩) (v := ?v64) rfl (by kernel_rfl) (by kernel_rfl) (by kernel_rfl) (fun _ _ _ h => h) (Or.inl ⟨by rfl, ?hy64⟩) (by assumption) ?rest64
          case hy64 => intro w hSw; (try dsimp only at hSw); go_simp <;> with_reducible rfl
          simp only [Act.put, List.setIfInBounds_toArray, List.set_cons_zero, List.set_cons_succ]
          refine wpAnyH_take (i := 16) (oi := ⟨some 140, _, _, _, _, _⟩) (v := ?v65) rfl (by kernel_rfl) (by kernel_rfl) (by kernel_rfl) (fun _ _ _ h => h) (Or.inl ⟨by rfl, ?hy65⟩) (by assumption) ?rest65
          case hy65 => intro w hSw; (try dsimp only at hSw); go_simp <;> with_reducible rfl
          simp only [Act.put, List.setIfInBounds_toArray, List.set_cons_zero, List.set_cons_succ]
          refine wpAnyH_take (i := 17) (oi := ⟨some 141, _, _, _, _, _⟩) (v := ?v66) rfl (by kernel_rfl) (by kernel_rfl) (by kernel_rfl) (fun _ _ _ h => h) (Or.inl ⟨by rfl, ?hy66⟩) (by assumption) ?rest66
          case hy66 => intro w hSw; (try dsimp only at hSw); go_simp <;> with_reducible rfl
          simp only [Act.put, List.setIfInBounds_toArray, List.set_cons_zero, List.set_cons_succ]
          refine wpAnyH_take (i := 18) (oi := ⟨some 142, _, _, _, _, _⟩) (v := ?v67) rfl (by kernel_rfl) (by kernel_rfl) (by kernel_rfl) (fun _ _ _ h => h) (Or.inl ⟨by rfl, ?hy67⟩) (by assumption) ?rest67
          case hy67 => intro w hSw; (try dsimp only at hSw); go_simp <;> with_reducible rfl
          simp only [Act.put, List.setIfInBounds_toArray, List.set_cons_zero, List.set_cons_succ]
          refine wpAnyH_take (i := 19) (oi := ⟨some 143, _, _, _, _, _⟩) (v := ?v68) rfl (by kernel_rfl) (by kernel_rfl) (by kernel_rfl) (fun _ _ _ h => h) (Or.inl ⟨by rfl, ?hy68⟩) (by assumption) ?rest68
          case hy68 => intro w hSw; (try dsimp only at hSw); go_simp <;> with_reducible rfl
          simp only [Act.put, List.setIfInBounds_toArray, List.set_cons_zero, List.set_cons_succ]
          refine wpAnyH_take (i := 20) (oi := ⟨some 144, _, _, _, _, _⟩) (v := ?v69) rfl (by kernel_rfl) (by kernel_rfl) (by kernel_rfl) (fun _ _ _ h => h) (Or.inl ⟨by rfl, ?hy69⟩) (by assumption) ?rest69
          case hy69 => intro w hSw; (try dsimp only at hSw); go_simp <;> with_reducible rfl
          simp only [Act.put, List.setIfInBounds_toArray, List.set_cons_zero, List.set_cons_succ]
          refine wpAnyH_take (i := 21) (oi := ⟨some 145, _, _, _, _, _⟩) (v := ?v70) rfl (by kernel_rfl) (by kernel_rfl) (by kernel_rfl) (fun _ _ _ h => h) (Or.inl ⟨by rfl, ?hy70⟩) (by assumption) ?rest70
          case hy70 => intro w hSw; (try dsimp only at hSw); go_simp <;> with_reducible rfl
          simp only [Act.put, List.setIfInBounds_toArray, List.set_cons_zero, List.set_cons_succ]
          refine wpAnyH_ready (rs := [8]) (by kernel_rfl) (by simp) ?_
          refine AllReadyH.cons rfl (fun K hK => ?_) AllReadyH.nil
          go_simp
          go_wp2_with fail
          refine (num6_any lh l1 so (w.heap.size + 1) _ _ HL_1.out ⟨by omega, by omega⟩ (by have := HLN.out; omega) HST36.out.own (HSF.out _ _ _ HST36.out)).mono ?_
          rintro en w37 ⟨A37, c37, rfl, hst⟩
          have HST37 := hide_ (HST36.out.trans hst)
          have HX37 := hide_ (HX36.out.step (by decide) HST36.out.own hst)
          have HBL37 := hide_ (HBL36.out.trans (hst.below HST36.out.own (B := w.heap.size) (by omega) (by have := HSF.out _ _ _ HST36.out; omega)))
          clear hst
          refine hK.out _ _ (⟨HX37, HX37.out.cell, HEL.out _ HBL37.out⟩) (fun hHeld => ?_)
          clear hK K
          refine wpAnyH_ready (rs := [15]) (by kernel_rfl) (by simp) ?_
          refine AllReadyH.cons rfl (fun K hK => ?_) AllReadyH.nil
          go_simp
          go_wp2_with fail
          refine (num6_any l1 l2 mi (w.heap.size + 1) _ _ HL_2.out HU1.out (by have := HN_1.out; omega) HST37.out.own (HSF.out _ _ _ HST37.out)).mono ?_
          rintro en w38 ⟨A38, c38, rfl, hst⟩
          have HST38 := hide_ (HST37.out.trans hst)
          have HX38 := hide_ (HX37.out.step (by decide) HST37.out.own hst)
          have HBL38 := hide_ (HBL37.out.trans (hst.below HST37.out.own (B := w.heap.size) (by omega) (by have := HSF.out _ _ _ HST37.out; omega)))
          clear hst
          refine hK.out _ _ (⟨HX38, HX38.out.cell, HEL.out _ HBL38.out⟩) (fun hHeld => ?_)
          clear hK K
          refine wpAnyH_ready (rs := [22]) (by kernel_rfl) (by simp) ?_
          refine AllReadyH.cons rfl (fun K hK => ?_) AllReadyH.nil
          go_simp
          go_wp2_with fail
          refine (num6_any l2 le mx (w.heap.size + 1) _ _ HPL.out HU2.out (by have := HN_2.out; omega) HST38.out.own (HSF.out _ _ _ HST38.out)).mono ?_
          rintro en w39 ⟨A39, c39, rfl, hst⟩
          have HST39 := hide_ (HST38.out.trans hst)
          have HX39 := hide_ (HX38.out.step (by decide) HST38.out.own hst)
          have HBL39 := hide_ (HBL38.out.trans (hst.below HST38.out.own (B := w.heap.size) (by omega) (by have := HSF.out _ _ _ HST38.out; omega)))
          clear hst
          refine hK.out _ _ (⟨HX39, HX39.out.cell, HEL.out _ HBL39.out⟩) (fun hHeld => ?_)
          clear hK K
          refine wpAnyH_take (i := 23) (oi := ⟨some 3, _, _, _, _, _⟩) (v := ?v71) rfl (by kernel_rfl) (by kernel_rfl) (by kernel_rfl) (fun _ _ _ h => h) (Or.inl ⟨by rfl, ?hy71⟩) (by assumption) ?rest71
          case hy71 => intro w hSw; (try dsimp only at hSw); go_simp <;> with_reducible rfl
          simp only [Act.put, List.setIfInBounds_toArray, List.set_cons_zero, List.set_cons_succ]
          refine wpAnyH_done (by kernel_rfl) ?_ _
          try clear hcx
          go_wp2_with fail
          go_roundw
          case rel => exact ⟨k + 1, by omega, by go_num, hide_ (by rw [HLE.out]; exact HST39.out), HX39.out⟩
          case measure => simp [intOf]; omega
        have hkn : nm = k := by omega
        subst hkn
        have HSEM := hide_ (show RowStep (w.heap.size + 1) (.slice (some ⟨w.heap.size + 1, 0, none⟩) 0 0) W0 _ wr bs from by
          have h := HK.out
          rw [← HNM.out, List.take_length, HP.out] at h
          exact h)
        have HXEM := hide_ HXR.out
        clear HK HXR hlt hk
        obtain ⟨AM, cM, hAM⟩ := own_slice HSEM.out.own
        subst hAM
        go_wp2
        go_ret
        exact ⟨_, _, rfl, own_mono (base := (w.heap.size + 1)) (base' := w.heap.size) HSEM.out.own (by omega), HBF.out _ _ _ HSEM.out⟩
end Go.Proofs.YtnkjdijbfnmnhaaGreat
