/-
  scrutineerlaw11.MsgMore answers true for every input and leaves its input as it was; no condition.
-/
import Derived.Test.YtkgnondlcaklnaaJ49
import Derived.Test.YtkgnondlcaklnaaJ39
import Derived.Test.YtkgnondlcaklnaaLaw
namespace Go.Proofs.Ytkgnondlcaklnaa.msgMore
open Go.ChangeShapes Go.WideShapes Go.ChangeAt Go.RowKit

set_option maxRecDepth 100000 in
set_option maxHeartbeats 12800000 in
theorem walk (m : MsgM) (l : List UInt8) (A : Option Addr) (n c : Nat) (w : World) (hm : MsgM.good w w.heap.size m) (hl : l.length = n) (hs : Sees w w.heap.size A (bv l)) :
    Calls Try.prog 4 #[m.v, .slice A n c] w fun e w' => e = .returned (.bool true) ∧ Below w.heap.size w w' := by
  have HG := hide_ (fun (u : World) (h : Below w.heap.size w u) => GreatG_any m.r w.heap.size u (reg_stable.below hm.2 h) h.size)
  have HP := hide_ (fun (u : World) (h : Below w.heap.size w u) => putMsg_any m u (msg_stable.more (msg_stable.below hm h) h.size))
  have HY := hide_ (fun h : mayM m.p = true => putM_yes h)
  have HN := hide_ (fun h : mayM m.p = false => putM_no h)
  have HLB := hide_ (fun h : mayM m.p = true => msgB_len hm h)
  have HMO := hide_ (fun (hmay : mayM m.p = true) (hne : l ≠ []) (ht : l.length ≤ 500) (r : List UInt8) (A : Option Addr) (n c : Nat) (u : World) (hr : markB (msgB m.p) ++ l = r) => Get_more m w.heap.size w l r A n c u hm hmay hne ht hr)
  have HLE := hide_ (fun (hmay : mayM m.p = true) (hne : l ≠ []) (ht : l.length ≤ 500) (r : List UInt8) (A : Option Addr) (n c : Nat) (u : World) (hr : markB (msgB m.p ++ l) = r) => Get_left m w.heap.size w l r A n c u hm hmay hne ht hr)
  obtain ⟨q, hq⟩ : ∃ q, mayM m.p = q := ⟨_, rfl⟩
  simp only [hq] at HY HN HLB HMO HLE
  obtain ⟨R, hR⟩ : ∃ R, putM m.p = R := ⟨_, rfl⟩
  simp only [hR] at HP HY HN
  obtain ⟨bs, hbs⟩ : ∃ b, msgB m.p = b := ⟨_, rfl⟩
  simp only [hbs] at HY HLB HMO HLE
  have HS := hide_ hs
  have HLN := hide_ hl
  obtain ⟨V, hV⟩ : ∃ V, m.v = V := ⟨_, rfl⟩
  rw [hV]
  have HV := hide_ (show V = .agg m.box from hV.symm)
  have HVV := hide_ hV
  clear hq hR hbs hm hs hl hV
  simp only [RegM.v, Sl.v] at HG
  go_enter Try.func4, Try.ntmps4
  go_wp2_with (refine box_msg (by rfl) _ (by rfl) (by rfl) HV.out ?_; intro W0 HX0 HB0 HZ0; have hcx := HX0.out.cell; simp only [MsgM.box] at hcx)
  refine (HG.out _ HB0.out).mono ?_
  rintro en w1 ⟨b, rfl, hb1, -⟩
  have HB1 := hide_ (HB0.out.trans (hb1.mono HB0.out.size))
  have HX1 := hide_ (HX0.out.below hb1)
  clear hb1 hcx HG
  cases b with
  | true =>
    go_wp2_with fail
    refine (awake11_any _).mono ?_
    rintro en wz ⟨rfl, hbz⟩
    go_wp2
    go_ret
    exact ⟨rfl, HB1.out.trans (hbz.mono HB1.out.size)⟩
  | false =>
  by_cases h5 : n ≤ 500
  case neg =>
    have d1 : decide ((500 : Int) < n) = true := decide_eq_true (by omega)
    go_wp2_with fail
    refine (awake11_any _).mono ?_
    rintro en wz ⟨rfl, hbz⟩
    go_wp2
    go_ret
    exact ⟨rfl, HB1.out.trans (hbz.mono HB1.out.size)⟩
  have d1 : decide ((500 : Int) < n) = false := decide_eq_false (by omega)
  by_cases h0 : n = 0
  case pos =>
    have d2 : ((n : Int) == 0) = true := beq_iff_eq.2 (by omega)
    go_wp2_with fail
    refine (awake11_any _).mono ?_
    rintro en wz ⟨rfl, hbz⟩
    go_wp2
    go_ret
    exact ⟨rfl, HB1.out.trans (hbz.mono HB1.out.size)⟩
  have d2 : ((n : Int) == 0) = false := beq_eq_false_iff_ne.2 (by omega)
  have HNE := hide_ (show l ≠ [] ∧ l.length ≤ 500 from ⟨fun h => h0 (by rw [← HLN.out, h]; rfl), by rw [HLN.out]; exact h5⟩)
  have H5 := hide_ (show 0 < n ∧ n ≤ 500 from ⟨by omega, h5⟩)
  clear h5 h0
  go_wp2_with (refine ld_msg (by rfl) _ (by rfl) HX1.out (by rfl) (by rfl) ?_)
  rw [← HV.out, ← HVV.out]
  refine (HP.out _ HB1.out).mono ?_
  clear d1 d2 HP
  obtain ⟨rb, re⟩ := R
  cases q with
  | false =>
    obtain ⟨rfl, rfl⟩ : rb = [] ∧ re = 3 := by have h := HN.out rfl; injection h with h1 h2; exact ⟨h1, h2⟩
    rintro en w2 ⟨A2, c2, rfl, ho2, hb2⟩
    have HB2 := hide_ (HB1.out.trans (hb2.mono HB1.out.size))
    clear ho2 hb2
    go_wp2_with fail
    refine (awake11_any _).mono ?_
    rintro en wz ⟨rfl, hbz⟩
    go_wp2
    go_ret
    exact ⟨rfl, HB2.out.trans (hbz.mono HB2.out.size)⟩
  | true =>
  obtain ⟨hrb, rfl⟩ : rb = markB bs ∧ re = 0 := by have h := HY.out rfl; injection h with h1 h2; exact ⟨h1, h2⟩
  have HLL := hide_ (HLB.out rfl)
  have HMO2 := hide_ (HMO.out rfl HNE.out.1 HNE.out.2)
  have HLE2 := hide_ (HLE.out rfl HNE.out.1 HNE.out.2)
  obtain ⟨k, hk⟩ : ∃ k, rb.length = k := ⟨_, rfl⟩
  obtain ⟨d, hd⟩ : ∃ d, bs.length = d := ⟨_, rfl⟩
  have hkd : k = d + 4 := by rw [← hk, hrb, markB_length, hd]
  have HK := hide_ (show rb.length = k ∧ bs.length = d ∧ k = d + 4 ∧ 9 ≤ d ∧ d ≤ 10200 from ⟨hk, hd, hkd, by rw [← hd]; exact HLL.out.1, by rw [← hd]; exact HLL.out.2⟩)
  have HRB := hide_ hrb
  rintro en w2 ⟨A2, c2, rfl, ho2, hb2⟩
  simp only [hk] at ho2 ⊢
  have HB2 := hide_ (HB1.out.trans (hb2.mono HB1.out.size))
  have HO2 := hide_ (Sees.own ho2)
  have HCP := hide_ (own_cap ho2)
  clear ho2 hb2 hk hd hkd hrb HY HN HLB HMO HLE HLL HVV HV HX0 HX1
  have d3 : decide ((k : Int) < 8) = false := decide_eq_false (by have := HK.out; omega)
  have hk8 : k ≤ 10300 := by have := HK.out; omega
  have hn5 : n ≤ 500 := H5.out.2
  have HR1 := hide_ (show rb ++ l = rb ++ l from rfl)
  obtain ⟨r1, hr1⟩ : ∃ r, rb ++ l = r := ⟨_, rfl⟩
  have HQ1 := hide_ hr1
  have HQL := hide_ (show r1.length = k + n from by rw [← hr1, List.length_append, HK.out.1, HLN.out])
  clear hr1 HR1
  go_wp2_with (first | (at_builtin; refine wpList_append_bytes (P := Try.prog) _ rfl (.tmp 37) (.tmp 38) 37 rfl w2.heap.size 5 u8_info Try.underlying37 _ 0 [] rb rb rfl rfl (World.ownsRow_lit w2 #[] 0 (Nat.le_refl _) (by simp [maxLen]) rfl) w2.heap.size A2 k c2 rfl HK.out.1 (HO2.out.below ((Below.refl _ _).alloc (Nat.le_refl _) _)) (by omega) (by simp) ?_; intro A3 c3 w3 hown3 hb3; have HB3 := hide_ (HB2.out.trans ((((Below.refl _ _).alloc (Nat.le_refl _) _).trans hb3).mono HB2.out.size)); have HO3 := hide_ hown3; have HZ3 := hide_ (show w2.heap.size ≤ w3.heap.size from (((Below.refl _ _).alloc (Nat.le_refl _) (.cells #[] 5)).trans hb3).size); have HS3 := hide_ (HO2.out.below (((Below.refl _ _).alloc (Nat.le_refl _) _).trans hb3)); clear hown3 hb3) | (at_builtin; refine wpList_append_bytes (P := Try.prog) _ rfl (.tmp 39) (.tmp 40) 37 rfl w2.heap.size 5 u8_info Try.underlying37 _ rb.length rb l r1 HQ1.out rfl HO3.out w.heap.size A n c rfl HLN.out (HS.out.below HB3.out) (by have := HK.out; omega) HZ3.out ?_; intro A4 c4 w4 hown4 hb4))
  have HB4 := hide_ (HB3.out.trans (hb4.mono HB2.out.size))
  have HO4 := hide_ (Sees.own hown4)
  have HC4 := hide_ (own_cap hown4)
  have HS4 := hide_ (HS3.out.below hb4)
  have HZ4 := hide_ (Nat.le_trans HZ3.out hb4.size)
  clear hown4 hb4 HO3 HB3 HZ3 HS3
  refine (HMO2.out r1 A4 r1.length c4 w4 (by rw [← HRB.out]; exact HQ1.out) rfl HO4.out HC4.out).mono ?_
  rintro en w5 ⟨er, her, x, rfl, -, -, hb5⟩
  have HB5 := hide_ (HB4.out.trans (hb5.mono HB4.out.size))
  have HS5 := hide_ (HS4.out.below (hb5.mono HZ4.out))
  have HZ5 := hide_ (Nat.le_trans HZ4.out hb5.size)
  have hd9 : (er != 0) = true := bne_iff_ne.2 her
  have HER := hide_ her
  clear hb5 her HS4 HB4 HZ4 HO4 HC4 HQ1 HQL HMO2
  obtain ⟨V, hV⟩ : ∃ V, x.v = V := ⟨_, rfl⟩
  rw [hV]
  have HV := hide_ (show V = .agg x.box from hV.symm)
  clear hV
  have e1 : (k : Int) - 4 = d := by have := HK.out; omega
  have hdc : (d : Int) ≤ c2 := by have := HK.out; have := HCP.out; omega
  have hdc2 : d ≤ c2 := by omega
  have HTK := hide_ (show rb.take d = bs from by rw [HRB.out, ← HK.out.2.1]; exact List.take_left)
  obtain ⟨r2, hr2⟩ : ∃ r, bs ++ l = r := ⟨_, rfl⟩
  have HQ2 := hide_ hr2
  have HQL2 := hide_ (show r2.length ≤ 20000 from by rw [← hr2, List.length_append, HK.out.2.1, HLN.out]; have := HK.out; omega)
  clear hr2
  go_wp2_with (first | (refine st_msg (by rfl) _ _ (by rfl) (by rfl) (by rfl) HV.out (by rfl) (by simp [MsgM.box, Value.oneCell']) (BoxAt.new w5 #[.int .u8 0, .int .u8 0, .int .u8 0, .int .u8 0, .int .u64 0, .int .u64 0, .int .u8 0, .int .u32 0, .bool false, .int .u64 0, .int .u8 0, .int .u32 0, .int .u8 0, .int .u64 0, .int .i64 0, .slice none 0 0, .slice none 0 0, .slice none 0 0, .int .u64 0, .slice none 0 0, .int .u64 0, .int .u8 0, .int .u32 0, .int .u64 0] 33) (by rfl) ?_; intro W5 HBW HGW HSW; have HX5 := hide_ (((Below.refl w2.heap.size w5).alloc HZ5.out (.cells #[.int .u8 0, .int .u8 0, .int .u8 0, .int .u8 0, .int .u64 0, .int .u64 0, .int .u8 0, .int .u32 0, .bool false, .int .u64 0, .int .u8 0, .int .u32 0, .int .u8 0, .int .u64 0, .int .i64 0, .slice none 0 0, .slice none 0 0, .slice none 0 0, .int .u64 0, .slice none 0 0, .int .u64 0, .int .u8 0, .int .u32 0, .int .u64 0] 33)).grown HGW.out (by have := HZ5.out; simp; omega) fun j hj => by injection hj with hj; have := HZ5.out; omega); have HB6 := hide_ (HB5.out.trans (HX5.out.mono HB2.out.size)); have HS6 := hide_ (show Sees W5 w2.heap.size A2 (bv bs) from by have h := Sees.take (HS5.out.below HX5.out) d; rw [← bv_take, HTK.out] at h; exact h); have HZ6 := hide_ (Nat.le_trans HZ5.out HX5.out.size); clear HBW HGW HSW HX5) | (at_builtin; refine wpList_append_bytes (P := Try.prog) _ rfl (.tmp 46) (.tmp 51) 37 rfl W5.heap.size 5 u8_info Try.underlying37 _ 0 [] bs bs rfl rfl (World.ownsRow_lit W5 #[] 0 (Nat.le_refl _) (by simp [maxLen]) rfl) w2.heap.size A2 d c2 rfl HK.out.2.1 (HS6.out.below ((Below.refl _ _).alloc HZ6.out _)) (by omega) (by simp) ?_; intro A6 c6 w6 hown6 hb6; have HB7 := hide_ (HB6.out.trans ((((Below.refl _ _).alloc (Nat.le_refl _) _).trans hb6).mono HB6.out.size)); have HO6 := hide_ hown6; have HZ7 := hide_ (show W5.heap.size ≤ w6.heap.size from (((Below.refl _ _).alloc (Nat.le_refl _) (.cells #[] 5)).trans hb6).size); clear hown6 hb6) | (at_builtin; refine wpList_append_bytes (P := Try.prog) _ rfl (.tmp 52) (.tmp 53) 37 rfl W5.heap.size 5 u8_info Try.underlying37 _ bs.length bs l r2 HQ2.out rfl HO6.out w.heap.size A n c rfl HLN.out (HS.out.below HB7.out) (by have := HK.out; omega) HZ7.out ?_; intro A7 c7 w7 hown7 hb7))
  have HB8 := hide_ (HB7.out.trans (hb7.mono HB6.out.size))
  have HO7 := hide_ (Sees.own hown7)
  clear hown7 hb7 HO6 HZ7 HB7 HS6 HZ6 HS5 HZ5
  refine (Mark_any r2 (markB r2) w7.heap.size A7 _ c7 w7 rfl rfl (by have := HQL2.out; omega) HO7.out (Nat.le_refl _)).mono ?_
  rintro en w8 ⟨A8, c8, rfl, ho8, hb8⟩
  have HB9 := hide_ (HB8.out.trans (hb8.mono HB8.out.size))
  have HO8 := hide_ (Sees.own ho8)
  have HC8 := hide_ (own_cap ho8)
  clear ho8 hb8 HO7 HB8
  go_wp2_with fail
  refine (HLE2.out (markB r2) A8 _ c8 w8 (by rw [HQ2.out]) rfl HO8.out HC8.out).mono ?_
  rintro en w9 ⟨y, rfl, -, -, hb9⟩
  have HBA := hide_ (HB9.out.trans (hb9.mono HB9.out.size))
  clear hb9 HB9 HO8 HC8 HLE2 HV
  obtain ⟨V2, hV2⟩ : ∃ V, y.v = V := ⟨_, rfl⟩
  rw [hV2]
  have HV2 := hide_ (show V2 = .agg y.box from hV2.symm)
  clear hV2
  go_wp2_with (refine st_msg (by rfl) _ _ (by rfl) (by rfl) (by rfl) HV2.out (by rfl) (by simp [MsgM.box, Value.oneCell']) (BoxAt.new w9 #[.int .u8 0, .int .u8 0, .int .u8 0, .int .u8 0, .int .u64 0, .int .u64 0, .int .u8 0, .int .u32 0, .bool false, .int .u64 0, .int .u8 0, .int .u32 0, .int .u8 0, .int .u64 0, .int .i64 0, .slice none 0 0, .slice none 0 0, .slice none 0 0, .int .u64 0, .slice none 0 0, .int .u64 0, .int .u8 0, .int .u32 0, .int .u64 0] 33) (by rfl) ?_; intro W9 HBW HGW HSW; have HBE := hide_ ((HBA.out.alloc HBA.out.size (.cells #[.int .u8 0, .int .u8 0, .int .u8 0, .int .u8 0, .int .u64 0, .int .u64 0, .int .u8 0, .int .u32 0, .bool false, .int .u64 0, .int .u8 0, .int .u32 0, .int .u8 0, .int .u64 0, .int .i64 0, .slice none 0 0, .slice none 0 0, .slice none 0 0, .int .u64 0, .slice none 0 0, .int .u64 0, .int .u8 0, .int .u32 0, .int .u64 0] 33)).grown HGW.out (by have := HBA.out.size; simp; omega) fun j hj => by injection hj with hj; have := HBA.out.size; omega); clear HBW HGW HSW)
  all_goals first | (exact absurd rfl HER.out) | skip
  refine (awake11_any _).mono ?_
  rintro en wz ⟨rfl, hbz⟩
  go_wp2
  go_ret
  exact ⟨rfl, HBE.out.trans (hbz.mono HBE.out.size)⟩
theorem own : ownKnob Try.prog.godebug = none := by kernel_rfl
theorem laid : laidOutB Try.prog = true := by kernel_rfl
theorem cells8 : Try.prog.cellsOf 5 = 1 := by kernel_rfl

set_option maxRecDepth 100000 in
theorem contract (H : Type) (enc : TypeId × Value → H) (W : World) (base : Nat) (args : Array Value) (ds gs : List (DataW H)) (before : List MemPlace)
    (hval : ∀ (j : Nat) t v, Try.f4.params[j]? = some t → args[j]? = some v → Value.okWide Try.prog W .any base t v)
    (hW : DataW.Whole enc Try.prog Try.f4.params.toList Rows.msgMoreSpec.vars false W args.toList ds gs before) :
    Calls Try.prog 4 args W fun e W' => ∃ v, e = .returned v ∧ Rows.msgMoreSpec.post enc Try.prog Try.f4 false true false false W args v W' := by
  have hW' := hW
  obtain ⟨p, q, hA0, hV, rfl, hfz, hnd⟩ := hW
  have hA : DataW.TrodAll enc Try.prog W 0 (fun _ => true) true Try.f4.params.toList args.toList ds p := hA0
  rw [Try.params4] at hA hval
  obtain ⟨v0, vs0, d0, ds0, p0, q0, hargs, rfl, rfl, h0, r0⟩ := trodAll_cons hA
  obtain ⟨v1, vs1, d1, ds1, p1, q1, rfl, rfl, rfl, h1, r1⟩ := trodAll_cons r0
  obtain ⟨rfl, rfl, rfl⟩ := trodAll_nil r1
  obtain rfl : args = #[v0, v1] := by cases args; simp_all
  obtain ⟨rfl, rfl⟩ := trodVars_none hV
  obtain ⟨u0, rfl, bu0⟩ := open_msg (hval 0 33 v0 rfl rfl) h0
  obtain ⟨A1, n1, c1, l1, rfl, e1, m1, M1, s1⟩ := open_bytes Try.underlying37 Try.underlying5 cells8 (hval 1 37 v1 rfl rfl) h1
  have fin : ∀ (e : Ending) (W' : World), e = .returned (.bool true) ∧ Below W.heap.size W W' → ∃ v, e = .returned v ∧ Rows.msgMoreSpec.post enc Try.prog Try.f4 false true false false W #[MsgM.v u0, .slice A1 n1 c1] v W' :=
    fun e W' ⟨he, hb⟩ => ⟨_, he, law_post laid (by kernel_rfl) rfl rfl rfl Try.underlying4 hW' hb⟩
  exact (walk u0 l1 A1 n1 c1 W bu0 e1 s1).mono fin

set_option maxRecDepth 100000 in
theorem lifted (os : Os) (started : os.Started) (H : Type) (enc : TypeId × Value → H) :
    ReturnsInHanded {} Try.checked os 4 .any (Rows.msgMoreSpec.pre6 enc Try.prog Try.f4 Rows.msgMoreRow.domain false) (Rows.msgMoreSpec.post enc Try.prog Try.f4 false true false false) := by
  refine returnsInHanded_of_change (C := Try.checked) (s := Rows.msgMoreSpec) own started (by kernel_rfl) Try.func4
    (ChangeSpec.witness6 (enc := enc) (C := Try.checked) false ⟨#[], #[.agg #[.int .u8 0, .int .u8 0, .int .u8 0, .int .u8 0, .int .u64 0, .int .u64 0, .int .u8 0, .int .u32 0, .bool false, .int .u64 0, .int .u8 0, .int .u32 0, .int .u8 0, .int .u64 0, .int .i64 0, .slice none 0 0, .slice none 0 0, .slice none 0 0, .int .u64 0, .slice none 0 0, .int .u64 0, .int .u8 0, .int .u32 0, .int .u64 0], .slice none 0 0], []⟩ 8 (by kernel_rfl) (by kernel_rfl) (by kernel_rfl) (by kernel_rfl)) ?_
  intro W base args ds gs before hval hW _ _
  exact contract H enc W base args ds gs before hval hW

theorem proved : Rows.MsgMoreSaid :=
  OpenClaim.holds_of_wide 4 Try.f4 rfl rfl rfl rfl rfl rfl rfl ⟨rfl, rfl, rfl, rfl, rfl⟩ rfl rfl rfl rfl rfl (by kernel_rfl) Try.func4 (by kernel_rfl)
    (of_decide_eq_true (by kernel_rfl)) (by unfold Func.isWrapper; first | (rw [if_pos (by decide +kernel)]; kernel_rfl) | (rw [if_neg (by decide +kernel)]; exact ⟨rfl, rfl⟩))
    (fun os started H enc _ => lifted os started H enc)

end Go.Proofs.Ytkgnondlcaklnaa.msgMore
