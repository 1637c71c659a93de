/-
  scrutineerlaw11.MsgSpoilt answers true for every input and leaves its input as it was; no condition.
-/
import Derived.Test.YtkgnondlcaklnaaGreatJ48
import Derived.Test.YtkgnondlcaklnaaGreatJ49
import Derived.Test.YtkgnondlcaklnaaGreatJ38
import Derived.Test.YtkgnondlcaklnaaGreatLaw
namespace Go.Proofs.YtkgnondlcaklnaaGreat.msgSpoilt
open Go.ChangeShapes Go.WideShapes Go.ChangeAt Go.RowKit

/-- the bytes r, of which k from the one numbered j on are others -/
def spoil (r : List UInt8) (j v : Nat) : Nat → List UInt8
  | 0 => r
  | k + 1 => (spoil r j v k).set (j + k) ((spoil r j v k).getD (j + k) 0 ^^^ UInt8.ofNat (v / 2 ^ (8 * k)))
theorem spoil_length (r : List UInt8) (j v : Nat) : ∀ k, (spoil r j v k).length = r.length
  | 0 => rfl
  | k + 1 => by rw [spoil, List.length_set, spoil_length r j v k]
theorem set_at (p s : List UInt8) (a b : UInt8) (k : Nat) (h : p.length = k) : (p ++ a :: s).set k b = p ++ b :: s := by
  subst h
  simp
theorem get_at (p s : List UInt8) (a : UInt8) (k : Nat) (h : p.length = k) : (p ++ a :: s).getD k 0 = a := by
  subst h
  simp
theorem spoil_four (p s : List UInt8) (a b c d : UInt8) (v : Nat) :
    spoil (p ++ [a, b, c, d] ++ s) p.length v 4 = p ++ [a ^^^ UInt8.ofNat v, b ^^^ UInt8.ofNat (v / 256), c ^^^ UInt8.ofNat (v / 65536), d ^^^ UInt8.ofNat (v / 16777216)] ++ s := by
  have h0 : spoil (p ++ [a, b, c, d] ++ s) p.length v 0 = p ++ a :: (b :: c :: d :: s) := by simp [spoil]
  have h1 : spoil (p ++ [a, b, c, d] ++ s) p.length v 1 = (p ++ [a ^^^ UInt8.ofNat v]) ++ b :: (c :: d :: s) := by
    rw [spoil, h0, get_at _ _ _ _ (by simp), set_at _ _ _ _ _ (by simp)]
    simp
  have h2 : spoil (p ++ [a, b, c, d] ++ s) p.length v 2 = (p ++ [a ^^^ UInt8.ofNat v, b ^^^ UInt8.ofNat (v / 256)]) ++ c :: (d :: s) := by
    rw [spoil, h1, get_at _ _ _ _ (by simp), set_at _ _ _ _ _ (by simp)]
    simp
  have h3 : spoil (p ++ [a, b, c, d] ++ s) p.length v 3 = (p ++ [a ^^^ UInt8.ofNat v, b ^^^ UInt8.ofNat (v / 256), c ^^^ UInt8.ofNat (v / 65536)]) ++ d :: s := by
    rw [spoil, h2, get_at _ _ _ _ (by simp), set_at _ _ _ _ _ (by simp)]
    simp
  rw [spoil, h3, get_at _ _ _ _ (by simp), set_at _ _ _ _ _ (by simp)]
  simp
theorem four_at (r : List UInt8) (j : Nat) (h : j + 4 ≤ r.length) : ∃ a b c d, r = r.take j ++ [a, b, c, d] ++ r.drop (j + 4) := by
  have e : r = r.take j ++ r.drop j := (List.take_append_drop j r).symm
  have hl : (r.drop j).length = r.length - j := List.length_drop
  have hd : r.drop (j + 4) = (r.drop j).drop 4 := by rw [List.drop_drop]
  rw [hd]
  match hr : r.drop j, hl with
  | a :: b :: c :: d :: t, _ => exact ⟨a, b, c, d, e.trans (by rw [hr]; simp)⟩
  | [], hl => simp at hl; omega
  | [_], hl => simp at hl; omega
  | [_, _], hl => simp at hl; omega
  | [_, _, _], hl => simp at hl; omega

theorem spoil_no (l : List UInt8) (j v : Nat) (hj : j ≤ l.length) (hv : v < 4294967296) (h0 : v ≠ 0) : fitsL (spoil (markB l) j v 4) = ([], 5) := by
  have hlen := spoil_length (markB l) j v 4
  have hml := markB_length l
  refine fitsL_no (by omega) fun he => ?_
  obtain ⟨a, b, c, d, hr⟩ := four_at (markB l) j (by omega)
  have hp : ((markB l).take j).length = j := by rw [List.length_take]; omega
  have h4 := spoil_four ((markB l).take j) ((markB l).drop (j + 4)) a b c d v
  rw [hp, ← hr] at h4
  have hne := crcR_four ((markB l).take j) ((markB l).drop (j + 4)) a b c d v hv h0
  rw [← hr, ← h4] at hne
  apply hne
  have k1 : crcR 4294967295 (markB l) = bitsN 32 4294967295 := crcR_mark l
  have k2 : crcR 4294967295 (spoil (markB l) j v 4) = bitsN 32 4294967295 := by
    rw [← he]
    exact crcR_mark _
  rw [k1, k2]


set_option maxRecDepth 100000 in
set_option maxHeartbeats 12800000 in
theorem walk (m : MsgM) (at_ : Int) (v : Nat) (w : World) (hm : MsgM.good w w.heap.size m) (hat : -9223372036854775808 ≤ at_ ∧ at_ ≤ 9223372036854775807) (hv : v < 4294967296) :
    Calls Tryz.prog 5 #[m.v, .int .i64 at_, .int .u32 v] w fun e w' => e = .returned (.bool true) ∧ Below w.heap.size w w' := by
  have HG := hide_ (fun (u : World) (h : Below w.heap.size w u) => GreatG_any m.r w.heap.size u (reg_stable.below hm.2 h) h.size)
  have HP := hide_ (fun (u : World) (h : Below w.heap.size w u) => putMsg_any m u (msg_stable.more (msg_stable.below hm h) h.size))
  have HY := hide_ (fun h : mayM m.p = true => putM_yes h)
  have HN := hide_ (fun h : mayM m.p = false => putM_no h)
  have HLB := hide_ (fun h : mayM m.p = true => msgB_len hm h)
  obtain ⟨q, hq⟩ : ∃ q, mayM m.p = q := ⟨_, rfl⟩
  simp only [hq] at HY HN HLB
  obtain ⟨R, hR⟩ : ∃ R, putM m.p = R := ⟨_, rfl⟩
  simp only [hR] at HP HY HN
  obtain ⟨bs, hbs⟩ : ∃ b, msgB m.p = b := ⟨_, rfl⟩
  simp only [hbs] at HY HLB
  obtain ⟨V, hV⟩ : ∃ V, m.v = V := ⟨_, rfl⟩
  rw [hV]
  have HV := hide_ (show V = .agg m.box from hV.symm)
  have HVV := hide_ hV
  clear hq hR hbs hm hV
  simp only [RegM.v, Sl.v] at HG
  go_enter Tryz.func5, Tryz.ntmps5
  go_wp2_with (refine box_msg (by rfl) _ (by rfl) (by rfl) HV.out ?_; intro W0 HX0 HB0 HZ0; have hcx := HX0.out.cell; simp only [MsgM.box] at hcx)
  refine (HG.out _ HB0.out).mono ?_
  rintro en w1 ⟨b, rfl, hb1, -⟩
  have HB1 := hide_ (HB0.out.trans (hb1.mono HB0.out.size))
  have HX1 := hide_ (HX0.out.below hb1)
  clear hb1 hcx HG
  cases b with
  | true =>
    go_wp2_with fail
    refine (awake11_any _).mono ?_
    rintro en wz ⟨rfl, hbz⟩
    go_wp2
    go_ret
    exact ⟨rfl, HB1.out.trans (hbz.mono HB1.out.size)⟩
  | false =>
  by_cases h0 : v = 0
  case pos =>
    have d2 : ((v : Int) == 0) = true := beq_iff_eq.2 (by omega)
    go_wp2_with fail
    refine (awake11_any _).mono ?_
    rintro en wz ⟨rfl, hbz⟩
    go_wp2
    go_ret
    exact ⟨rfl, HB1.out.trans (hbz.mono HB1.out.size)⟩
  have d2 : ((v : Int) == 0) = false := beq_eq_false_iff_ne.2 (by omega)
  have H0 := hide_ h0
  clear h0
  go_wp2_with (refine ld_msg (by rfl) _ (by rfl) HX1.out (by rfl) (by rfl) ?_)
  rw [← HV.out, ← HVV.out]
  refine (HP.out _ HB1.out).mono ?_
  clear d2 HP
  obtain ⟨rb, re⟩ := R
  cases q with
  | false =>
    obtain ⟨rfl, rfl⟩ : rb = [] ∧ re = 3 := by have h := HN.out rfl; injection h with h1 h2; exact ⟨h1, h2⟩
    rintro en w2 ⟨A2, c2, rfl, ho2, hb2⟩
    have HB2 := hide_ (HB1.out.trans (hb2.mono HB1.out.size))
    clear ho2 hb2
    go_wp2_with fail
    refine (awake11_any _).mono ?_
    rintro en wz ⟨rfl, hbz⟩
    go_wp2
    go_ret
    exact ⟨rfl, HB2.out.trans (hbz.mono HB2.out.size)⟩
  | true =>
  obtain ⟨hrb, rfl⟩ : rb = markB bs ∧ re = 0 := by have h := HY.out rfl; injection h with h1 h2; exact ⟨h1, h2⟩
  have HLL := hide_ (HLB.out rfl)
  obtain ⟨d, hd⟩ : ∃ d, bs.length = d := ⟨_, rfl⟩
  have HK := hide_ (show rb.length = d + 4 ∧ bs.length = d ∧ 9 ≤ d ∧ d ≤ 10200 from ⟨by rw [hrb, markB_length, hd], hd, by rw [← hd]; exact HLL.out.1, by rw [← hd]; exact HLL.out.2⟩)
  have HRB := hide_ hrb
  rintro en w2 ⟨A2, c2, rfl, ho2, hb2⟩
  simp only [HK.out.1] at ho2 ⊢
  have HB2 := hide_ (HB1.out.trans (hb2.mono HB1.out.size))
  have HLE1 := hide_ HB1.out.size
  obtain ⟨g, rfl, hg, hrc, hrow⟩ := own_row ho2 HK.out.1 (by omega)
  have HGG := hide_ hg
  have HRC := hide_ hrc
  have HRW := hide_ hrow
  clear ho2 hb2 hd hrb hg hrc hrow HY HN HLB HLL HVV HV HX0 HX1
  have hdl : 9 ≤ d := HK.out.2.2.1
  have hdu : d ≤ 10200 := HK.out.2.2.2
  have d3 : decide (((d + 4 : Nat) : Int) < 8) = false := decide_eq_false (by omega)
  have e1 : (d : Int) + 4 - 4 = d := by omega
  have d3' : decide ((d : Int) + 4 < 8) = false := decide_eq_false (by omega)
  by_cases hneg : at_ < 0
  case pos =>
    have d4 : decide (at_ < 0) = true := decide_eq_true hneg
    go_wp2_with fail
    refine (awake11_any _).mono ?_
    rintro en wz ⟨rfl, hbz⟩
    go_wp2
    go_ret
    exact ⟨rfl, HB2.out.trans (hbz.mono HB2.out.size)⟩
  have d4 : decide (at_ < 0) = false := decide_eq_false hneg
  by_cases hbig : (d : Int) < at_
  case pos =>
    have d5 : decide ((d : Int) < at_) = true := decide_eq_true hbig
    go_wp2_with fail
    refine (awake11_any _).mono ?_
    rintro en wz ⟨rfl, hbz⟩
    go_wp2
    go_ret
    exact ⟨rfl, HB2.out.trans (hbz.mono HB2.out.size)⟩
  have d5 : decide ((d : Int) < at_) = false := decide_eq_false hbig
  obtain ⟨j, rfl⟩ := Int.eq_ofNat_of_zero_le (show 0 ≤ at_ by omega)
  have HJ := hide_ (show j ≤ d by omega)
  have HNO := hide_ (show fitsL (spoil rb j v 4) = ([], 5) from by rw [HRB.out]; exact spoil_no bs j v (by have := HK.out; have := HJ.out; omega) hv H0.out)
  clear hneg hbig
  have d4' : decide ((j : Int) < 0) = false := decide_eq_false (by omega)
  have d5' : decide ((d : Int) + 4 - 4 < (j : Int)) = false := decide_eq_false (by have := HJ.out; omega)
  have d6 : decide (d < j) = false := decide_eq_false (by have := HJ.out; omega)
  clear d3' d5 d4' d5'
  go_wp2
  go_loopw [9] (fun i wr => ∃ k : Nat, k ≤ 4 ∧ i = .int .i64 k ∧ RowIs wr g (spoil rb j v k) ∧ Below w.heap.size w wr) (fun i _ => 4 - (intOf i).toNat)
  case atStart => exact ⟨0, by omega, rfl, HRW.out, HB2.out⟩
  case round =>
    obtain ⟨k, hk, rfl, hrk, hb⟩ := hrel
    have hsl : (spoil rb j v k).length = d + 4 := by rw [spoil_length]; exact HK.out.1
    have hj : j ≤ d := HJ.out
    have hgw : w.heap.size ≤ g := Nat.le_trans HLE1.out HGG.out
    by_cases hlt : k < 4
    · obtain ⟨hc, hf⟩ := hrk.get (j := j + k) (by omega)
      have hset := hrk.set_ (j := j + k) ((spoil rb j v k).getD (j + k) 0 ^^^ UInt8.ofNat (v / 2 ^ (8 * k)))
      have hs1 : spoil rb j v (k + 1) = (spoil rb j v k).set (j + k) ((spoil rb j v k).getD (j + k) 0 ^^^ UInt8.ofNat (v / 2 ^ (8 * k))) := rfl
      rw [← hs1] at hset
      clear hs1
      have hb8 : bits .xor .u8 (((spoil rb j v k).getD (j + k) 0).toNat : Int) ((v : Int) / 2 ^ (8 * k) % 256) = (((spoil rb j v k).getD (j + k) 0 ^^^ UInt8.ofNat (v / 2 ^ (8 * k))).toNat : Int) := by
        have e : (v : Int) / 2 ^ (8 * k) % 256 = ((v / 2 ^ (8 * k) % 256 : Nat) : Int) := by simp
        rw [e, u8_xor_nat _ _ (UInt8.toNat_lt _) (by omega), UInt8.toNat_xor]
        simp
      generalize (spoil rb j v k).getD (j + k) 0 = x at hc hset hb8
      generalize x ^^^ UInt8.ofNat (v / 2 ^ (8 * k)) = y at hset hb8
      have hsum : IntKind.i64.wrap ((j : Int) + (k : Int)) = (j : Int) + (k : Int) := IntWalk.i64_in _ (by omega)
      have hmul : IntKind.i64.wrap (8 * (k : Int)) = 8 * (k : Int) := IntWalk.i64_in _ (by omega)
      have hnat : ((j : Int) + (k : Int)).toNat = j + k := by omega
      have hnat2 : (8 * (k : Int)).toNat = 8 * k := by omega
      have i0 : (0 : Int) ≤ (j : Int) + (k : Int) := by omega
      have i1 : (j : Int) + (k : Int) < (d : Int) + 4 := by omega
      go_wp2
      go_region
      go_wp2
      go_roundw
      case rel => exact ⟨k + 1, by omega, by go_num, hset, (hb.setCell hgw _).drew⟩
      case measure => simp [intOf]; omega
    · obtain rfl : k = 4 := by omega
      have HBR := hide_ hb
      go_wp2_with fail
      refine (Get_bad (spoil rb j v 4) 5 (some ⟨g, 0, none⟩) (d + 4) c2 wr HNO.out (by omega) hsl (by omega) hrk.sees HRC.out).mono ?_
      rintro en w5 ⟨y, rfl, hyp, hyg, hb5⟩
      have HB5 := hide_ (HBR.out.trans (hb5.mono HBR.out.size))
      have HYP := hide_ hyp
      have HYG := hide_ hyg
      clear hb5 hyp hyg hb hrk hk hlt
      obtain ⟨V, hV⟩ : ∃ V, y.v = V := ⟨_, rfl⟩
      rw [hV]
      have HV := hide_ (show V = .agg y.box from hV.symm)
      have HVV := hide_ hV
      clear hV
      go_wp2_with (first | (refine st_msg (by rfl) _ _ (by rfl) (by rfl) (by rfl) HV.out (by rfl) (by simp [MsgM.box, Value.oneCell']) (BoxAt.new w5 #[.int .u8 0, .int .u8 0, .int .u8 0, .int .u8 0, .int .u64 0, .int .u64 0, .int .u8 0, .int .u32 0, .bool false, .int .u64 0, .int .u8 0, .int .u32 0, .int .u8 0, .int .u64 0, .int .i64 0, .slice none 0 0, .slice none 0 0, .slice none 0 0, .int .u64 0, .slice none 0 0, .int .u64 0, .int .u8 0, .int .u32 0, .int .u64 0] 51) (by rfl) ?_; intro W5 HBW HGW HSW; have HX5 := hide_ (((Below.refl w5.heap.size w5).alloc (Nat.le_refl _) (.cells #[.int .u8 0, .int .u8 0, .int .u8 0, .int .u8 0, .int .u64 0, .int .u64 0, .int .u8 0, .int .u32 0, .bool false, .int .u64 0, .int .u8 0, .int .u32 0, .int .u8 0, .int .u64 0, .int .i64 0, .slice none 0 0, .slice none 0 0, .slice none 0 0, .int .u64 0, .slice none 0 0, .int .u64 0, .int .u8 0, .int .u32 0, .int .u64 0] 51)).grown HGW.out (by simp) fun j hj => by injection hj with hj; omega); have HB6 := hide_ (HB5.out.trans (HX5.out.mono HB5.out.size))) | (refine ld_msg (by rfl) _ (by rfl) HBW.out (by rfl) (by rfl) ?_))
      refine (refSameMsgEq_any y zeroMsg w5.heap.size W5 (msg_stable.below HYG.out HX5.out) (zeroMsg_good _ _) HX5.out.size HYP.out).mono ?_
      rintro en w6 ⟨rfl, hb6⟩
      have HB7 := hide_ (HB6.out.trans (hb6.mono HB6.out.size))
      clear hb6
      go_wp2_with fail
      refine (awake11_any _).mono ?_
      rintro en wz ⟨rfl, hbz⟩
      go_wp2
      go_ret
      exact ⟨rfl, HB7.out.trans (hbz.mono HB7.out.size)⟩
theorem own : ownKnob Tryz.prog.godebug = none := by kernel_rfl
theorem laid : laidOutB Tryz.prog = true := by kernel_rfl

set_option maxRecDepth 100000 in
theorem contract (H : Type) (enc : TypeId × Value → H) (W : World) (base : Nat) (args : Array Value) (ds gs : List (DataW H)) (before : List MemPlace)
    (hval : ∀ (j : Nat) t v, Tryz.f5.params[j]? = some t → args[j]? = some v → Value.okWide Tryz.prog W .any base t v)
    (hW : DataW.Whole enc Tryz.prog Tryz.f5.params.toList Rows.msgSpoiltSpec.vars false W args.toList ds gs before) :
    Calls Tryz.prog 5 args W fun e W' => ∃ v, e = .returned v ∧ Rows.msgSpoiltSpec.post enc Tryz.prog Tryz.f5 false true false false W args v W' := by
  have hW' := hW
  obtain ⟨p, q, hA0, hV, rfl, hfz, hnd⟩ := hW
  have hA : DataW.TrodAll enc Tryz.prog W 0 (fun _ => true) true Tryz.f5.params.toList args.toList ds p := hA0
  rw [Tryz.params5] at hA hval
  obtain ⟨v0, vs0, d0, ds0, p0, q0, hargs, rfl, rfl, h0, r0⟩ := trodAll_cons hA
  obtain ⟨v1, vs1, d1, ds1, p1, q1, rfl, rfl, rfl, h1, r1⟩ := trodAll_cons r0
  obtain ⟨v2, vs2, d2, ds2, p2, q2, rfl, rfl, rfl, h2, r2⟩ := trodAll_cons r1
  obtain ⟨rfl, rfl, rfl⟩ := trodAll_nil r2
  obtain rfl : args = #[v0, v1, v2] := by cases args; simp_all
  obtain ⟨rfl, rfl⟩ := trodVars_none hV
  obtain ⟨u0, rfl, bu0⟩ := open_msg (hval 0 51 v0 rfl rfl) h0
  obtain ⟨a1, rfl, rfl, rfl, w1⟩ := open_int Tryz.underlying3 (hval 1 3 v1 rfl rfl) h1
  have b1 : -9223372036854775808 ≤ a1 ∧ a1 ≤ 9223372036854775807 := by simpa [Lit.wf, IntKind.min, IntKind.max, IntKind.signed, IntKind.bits] using w1
  obtain ⟨a2, rfl, rfl, rfl, w2⟩ := open_int Tryz.underlying47 (hval 2 47 v2 rfl rfl) h2
  have b2 : 0 ≤ a2 ∧ a2 ≤ 4294967295 := by simpa [Lit.wf, IntKind.min, IntKind.max, IntKind.signed, IntKind.bits] using w2
  have fin : ∀ (e : Ending) (W' : World), e = .returned (.bool true) ∧ Below W.heap.size W W' → ∃ v, e = .returned v ∧ Rows.msgSpoiltSpec.post enc Tryz.prog Tryz.f5 false true false false W #[MsgM.v u0, .int .i64 a1, .int .u32 a2] v W' :=
    fun e W' ⟨he, hb⟩ => ⟨_, he, law_post laid (by kernel_rfl) rfl rfl rfl Tryz.underlying4 hW' hb⟩
  obtain ⟨v2, rfl⟩ := Int.eq_ofNat_of_zero_le b2.1
  exact (walk u0 a1 v2 W bu0 b1 (by omega)).mono fin

set_option maxRecDepth 100000 in
theorem lifted (os : Os) (started : os.Started) (H : Type) (enc : TypeId × Value → H) :
    ReturnsInHanded {} Tryz.checked os 5 .any (Rows.msgSpoiltSpec.pre6 enc Tryz.prog Tryz.f5 Rows.msgSpoiltRow.domain false) (Rows.msgSpoiltSpec.post enc Tryz.prog Tryz.f5 false true false false) := by
  refine returnsInHanded_of_change (C := Tryz.checked) (s := Rows.msgSpoiltSpec) own started (by kernel_rfl) Tryz.func5
    (ChangeSpec.witness6 (enc := enc) (C := Tryz.checked) false ⟨#[], #[.agg #[.int .u8 0, .int .u8 0, .int .u8 0, .int .u8 0, .int .u64 0, .int .u64 0, .int .u8 0, .int .u32 0, .bool false, .int .u64 0, .int .u8 0, .int .u32 0, .int .u8 0, .int .u64 0, .int .i64 0, .slice none 0 0, .slice none 0 0, .slice none 0 0, .int .u64 0, .slice none 0 0, .int .u64 0, .int .u8 0, .int .u32 0, .int .u64 0], .int .i64 0, .int .u32 0], []⟩ 8 (by kernel_rfl) (by kernel_rfl) (by kernel_rfl) (by kernel_rfl)) ?_
  intro W base args ds gs before hval hW _ _
  exact contract H enc W base args ds gs before hval hW

theorem proved : Rows.MsgSpoiltSaid :=
  OpenClaim.holds_of_wide 5 Tryz.f5 rfl rfl rfl rfl rfl rfl rfl ⟨rfl, rfl, rfl, rfl, rfl⟩ rfl rfl rfl rfl rfl (by kernel_rfl) Tryz.func5 (by kernel_rfl)
    (of_decide_eq_true (by kernel_rfl)) (by unfold Func.isWrapper; first | (rw [if_pos (by decide +kernel)]; kernel_rfl) | (rw [if_neg (by decide +kernel)]; exact ⟨rfl, rfl⟩))
    (fun os started H enc _ => lifted os started H enc)

end Go.Proofs.YtkgnondlcaklnaaGreat.msgSpoilt
