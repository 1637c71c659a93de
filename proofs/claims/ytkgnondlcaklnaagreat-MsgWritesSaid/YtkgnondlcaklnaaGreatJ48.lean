/-
  Texts of this claim put together: Msg5, OpenM, More11.
-/
import Derived.Test.YtkgnondlcaklnaaGreatJ47
import Derived.Test.YtkgnondlcaklnaaGreatJ44
/-
  Contracts of msg's Get: bytes whose mark doesn't fit; what was put, with bytes behind it or without; the example.
-/
namespace Go.Proofs.YtkgnondlcaklnaaGreat
open Go.RowKit

/-- what a call leaves that gets a message -/
def GotM (p : MsgP) (er : Int) (w : World) (e : Ending) (w' : World) : Prop :=
  ∃ x : MsgM, e = .returned (.tuple #[x.v, .int .i64 er]) ∧ x.p = p ∧ MsgM.good w' w'.heap.size x ∧ Below w.heap.size w w'

set_option maxRecDepth 100000 in
theorem Get_bad (l : List UInt8) (er : Int) (A : Option Addr) (n c : Nat) (w : World) (hf : fitsL l = ([], er)) (her : er ≠ 0) (hn : l.length = n) (hm : n ≤ 70368744177000) (hs : Sees w w.heap.size A (bv l)) (hc : n ≤ c) :
    Calls Tryz.prog 20 #[.slice A n c] w (GotM zeroMsg.p er w) := by
  have hb0 : Below w.heap.size w (w.alloc (.cells #[.int .u8 0, .int .u8 0, .int .u8 0, .int .u8 0, .int .u64 0, .int .u64 0, .int .u8 0, .int .u32 0, .bool false, .int .u64 0, .int .u8 0, .int .u32 0, .int .u8 0, .int .u64 0, .int .i64 0, .slice none 0 0, .slice none 0 0, .slice none 0 0, .int .u64 0, .slice none 0 0, .int .u64 0, .int .u8 0, .int .u32 0, .int .u64 0] 51)) := (Below.refl _ _).alloc (Nat.le_refl _) _
  have HF := hide_ (Fits_to l [] er A n c (w.alloc (.cells #[.int .u8 0, .int .u8 0, .int .u8 0, .int .u8 0, .int .u64 0, .int .u64 0, .int .u8 0, .int .u32 0, .bool false, .int .u64 0, .int .u8 0, .int .u32 0, .int .u8 0, .int .u64 0, .int .i64 0, .slice none 0 0, .slice none 0 0, .slice none 0 0, .int .u64 0, .slice none 0 0, .int .u64 0, .int .u8 0, .int .u32 0, .int .u64 0] 51)) hf hn hm ((hs.below hb0).more (by simp)) hc)
  have HB0 := hide_ hb0
  have HX0 := hide_ (BoxAt.new w #[.int .u8 0, .int .u8 0, .int .u8 0, .int .u8 0, .int .u64 0, .int .u64 0, .int .u8 0, .int .u32 0, .bool false, .int .u64 0, .int .u8 0, .int .u32 0, .int .u8 0, .int .u64 0, .int .i64 0, .slice none 0 0, .slice none 0 0, .slice none 0 0, .int .u64 0, .slice none 0 0, .int .u64 0, .int .u8 0, .int .u32 0, .int .u64 0] 51)
  have hd : (er == 0) = false := beq_eq_false_iff_ne.2 her
  clear hf her hn hm hs hc hb0
  go_enter Tryz.func20, Tryz.ntmps20
  go_wp2_with fail
  refine HF.out.mono ?_
  rintro en w1 ⟨A1, n1, c1, rfl, -, -, hb1⟩
  have HB1 := hide_ (HB0.out.trans (hb1.mono HB0.out.size))
  have HXQ := hide_ (HX0.out.below hb1)
  clear hb1 HX0 HF
  go_wp2_with (refine st_msg (by rfl) _ _ (by rfl) (by rfl) (by rfl) rfl (by rfl) (by simp [Value.oneCell']) HXQ.out (by rfl) ?_; intro VZ HBZ HGZ HSZ)
  refine bodyPost_ret (v := .tuple #[.agg #[.int .u8 0, .int .u8 0, .int .u8 0, .int .u8 0, .int .u64 0, .int .u64 0, .int .u8 0, .int .u32 0, .bool false, .int .u64 0, .int .u8 0, .int .u32 0, .int .u8 0, .int .u64 0, .int .i64 0, .slice none 0 0, .slice none 0 0, .slice none 0 0, .int .u64 0, .slice none 0 0, .int .u64 0, .int .u8 0, .int .u32 0, .int .u64 0], .int .i64 er]) (res_msg2 (by rfl) (by rfl) (by rfl) HBZ.out rfl) rfl ?_
  exact ⟨zeroMsg, rfl, rfl, zeroMsg_good _ _, HB1.out.grown HGZ.out HB1.out.size fun j hj => by injection hj with hj; omega⟩


set_option maxRecDepth 100000 in
set_option maxHeartbeats 6400000 in
theorem Get_long (l : List UInt8) (m : MsgM) (t : List UInt8) (A : Option Addr) (n c : Nat) (w : World) (hok : m.ok') (hget : ∀ t, getS (regB m.r.p ++ t, 0) = (m.r.p, (t, 0))) (hne : t ≠ []) (hf : fitsL l = (msgB m.p ++ t, 0)) (hl : (msgB m.p ++ t).length ≤ 1000000) (hn : l.length = n) (hm : n ≤ 70368744177000) (hs : Sees w w.heap.size A (bv l)) (hc : n ≤ c) :
    Calls Tryz.prog 20 #[.slice A n c] w (GotM zeroMsg.p 4 w) := by
  have hb0 : Below w.heap.size w (w.alloc (.cells #[.int .u8 0, .int .u8 0, .int .u8 0, .int .u8 0, .int .u64 0, .int .u64 0, .int .u8 0, .int .u32 0, .bool false, .int .u64 0, .int .u8 0, .int .u32 0, .int .u8 0, .int .u64 0, .int .i64 0, .slice none 0 0, .slice none 0 0, .slice none 0 0, .int .u64 0, .slice none 0 0, .int .u64 0, .int .u8 0, .int .u32 0, .int .u64 0] 51)) := (Below.refl _ _).alloc (Nat.le_refl _) _
  have HF := hide_ (Fits_to l (msgB m.p ++ t) 0 A n c (w.alloc (.cells #[.int .u8 0, .int .u8 0, .int .u8 0, .int .u8 0, .int .u64 0, .int .u64 0, .int .u8 0, .int .u32 0, .bool false, .int .u64 0, .int .u8 0, .int .u32 0, .int .u8 0, .int .u64 0, .int .i64 0, .slice none 0 0, .slice none 0 0, .slice none 0 0, .int .u64 0, .slice none 0 0, .int .u64 0, .int .u8 0, .int .u32 0, .int .u64 0] 51)) hf hn hm ((hs.below hb0).more (by simp)) hc)
  have HB0 := hide_ hb0
  have HX0 := hide_ (BoxAt.new w #[.int .u8 0, .int .u8 0, .int .u8 0, .int .u8 0, .int .u64 0, .int .u64 0, .int .u8 0, .int .u32 0, .bool false, .int .u64 0, .int .u8 0, .int .u32 0, .int .u8 0, .int .u64 0, .int .i64 0, .slice none 0 0, .slice none 0 0, .slice none 0 0, .int .u64 0, .slice none 0 0, .int .u64 0, .int .u8 0, .int .u32 0, .int .u64 0] 51)
  have HTK := hide_ (fun (g : Nat) (u : World) (h : Rdr u g (msgB m.p ++ t) 0) => take_put m m.r.p t g u hok hget rfl h hl)
  have HNT := hide_ (show endS (t, 0) = 4 from by unfold endS; rw [if_pos rfl, if_neg hne])
  have HLL := hide_ hl
  obtain ⟨mp, hmp⟩ : ∃ p, m.p = p := ⟨_, rfl⟩
  simp only [hmp] at HTK
  rw [hmp] at HF HLL
  clear hf hn hm hs hc hb0 hok hget hl hmp hne
  obtain ⟨bs, hbs⟩ : ∃ b, msgB mp ++ t = b := ⟨_, rfl⟩
  rw [hbs] at HF HLL
  simp only [hbs] at HTK
  clear hbs
  go_enter Tryz.func20, Tryz.ntmps20
  go_wp2_with fail
  refine HF.out.mono ?_
  rintro en w1 ⟨A1, n1, c1, rfl, hn1, hs1, hb1⟩
  have HB1 := hide_ (HB0.out.trans (hb1.mono HB0.out.size))
  have HX1 := hide_ (HX0.out.below hb1)
  have HN1 := hide_ hn1
  have HS1 := hide_ hs1
  clear hb1 hn1 hs1 HX0 HF HB0
  go_wp2_with fail
  refine (New_any bs w1.heap.size A1 n1 c1 w1 HN1.out HS1.out (Nat.le_refl _) (by have := HLL.out; have := HN1.out; omega)).mono ?_
  rintro en w2 ⟨g, rfl, hg, hr2, hb2⟩
  have HB2 := hide_ (HB1.out.trans (hb2.mono HB1.out.size))
  have HX2 := hide_ (HX1.out.below hb2)
  have HG := hide_ (show w.heap.size < g from Nat.lt_of_lt_of_le HX1.out.lt hg)
  have HR2 := hide_ hr2
  have HLT := hide_ hr2.glt
  clear hb2 hg hr2 HX1 HB1 HS1 HN1
  go_wp2_with fail
  refine (HTK.out g w2 HR2.out).mono ?_
  rintro en w3 ⟨x, rfl, hxp, hxg, hxl, hr3, hg3⟩
  have HB3 := hide_ (HB2.out.grown hg3 HB2.out.size fun j hj => by injection hj with hj; have := HG.out; omega)
  have HX3 := hide_ (show BoxAt w3 w.heap.size _ _ from box_far hg3 HX2.out (by have := HG.out; omega))
  have HXP := hide_ hxp
  have HXG := hide_ hxg
  have HXL := hide_ (show ∀ k, RegM.ft x.r k → w.heap.size < k ∧ k < w3.heap.size from fun k hk => ⟨Nat.lt_of_lt_of_le HX2.out.lt (hxl k hk).1, (hxl k hk).2⟩)
  have HR3 := hide_ hr3
  have HLT3 := hide_ hr3.glt
  clear hxp hxg hxl hr3 hg3 HX2 HB2 HR2 HTK HLT
  obtain ⟨V, hV⟩ : ∃ V, x.v = V := ⟨_, rfl⟩
  rw [hV]
  have HV := hide_ (show V = .agg x.box from hV.symm)
  clear hV
  go_wp2_with (refine st_msg (by rfl) _ _ (by rfl) (by rfl) (by rfl) HV.out (by rfl) (by simp [MsgM.box, Value.oneCell']) (BoxAt.new w3 #[.int .u8 0, .int .u8 0, .int .u8 0, .int .u8 0, .int .u64 0, .int .u64 0, .int .u8 0, .int .u32 0, .bool false, .int .u64 0, .int .u8 0, .int .u32 0, .int .u8 0, .int .u64 0, .int .i64 0, .slice none 0 0, .slice none 0 0, .slice none 0 0, .int .u64 0, .slice none 0 0, .int .u64 0, .int .u8 0, .int .u32 0, .int .u64 0] 51) (by rfl) ?_; intro W3 HBW HGW HSW)
  have HR4 := hide_ ((HR3.out.made (.cells #[.int .u8 0, .int .u8 0, .int .u8 0, .int .u8 0, .int .u64 0, .int .u64 0, .int .u8 0, .int .u32 0, .bool false, .int .u64 0, .int .u8 0, .int .u32 0, .int .u8 0, .int .u64 0, .int .i64 0, .slice none 0 0, .slice none 0 0, .slice none 0 0, .int .u64 0, .slice none 0 0, .int .u64 0, .int .u8 0, .int .u32 0, .int .u64 0] 51)).other HGW.out (fun k e => by injection e with e; have := HLT3.out; omega))
  have HB4 := hide_ ((HB3.out.alloc HB3.out.size (.cells #[.int .u8 0, .int .u8 0, .int .u8 0, .int .u8 0, .int .u64 0, .int .u64 0, .int .u8 0, .int .u32 0, .bool false, .int .u64 0, .int .u8 0, .int .u32 0, .int .u8 0, .int .u64 0, .int .i64 0, .slice none 0 0, .slice none 0 0, .slice none 0 0, .int .u64 0, .slice none 0 0, .int .u64 0, .int .u8 0, .int .u32 0, .int .u64 0] 51)).grown HGW.out (by have := HB3.out.size; simp; omega) fun j hj => by injection hj with hj; have := HB3.out.size; omega)
  have HX4 := hide_ (show BoxAt W3 w.heap.size _ _ from box_far HGW.out (HX3.out.alloc (.cells #[.int .u8 0, .int .u8 0, .int .u8 0, .int .u8 0, .int .u64 0, .int .u64 0, .int .u8 0, .int .u32 0, .bool false, .int .u64 0, .int .u8 0, .int .u32 0, .int .u8 0, .int .u64 0, .int .i64 0, .slice none 0 0, .slice none 0 0, .slice none 0 0, .int .u64 0, .slice none 0 0, .int .u64 0, .int .u8 0, .int .u32 0, .int .u64 0] 51)) (by have := HX3.out.lt; omega))
  have HO4 := hide_ (Local.grown reg_local (Local.below reg_local HXG.out.2 ((Below.refl _ _).alloc (Nat.le_refl _) (.cells #[.int .u8 0, .int .u8 0, .int .u8 0, .int .u8 0, .int .u64 0, .int .u64 0, .int .u8 0, .int .u32 0, .bool false, .int .u64 0, .int .u8 0, .int .u32 0, .int .u8 0, .int .u64 0, .int .i64 0, .slice none 0 0, .slice none 0 0, .slice none 0 0, .int .u64 0, .slice none 0 0, .int .u64 0, .int .u8 0, .int .u32 0, .int .u64 0] 51))) HGW.out (fun k hk e => by injection e with e; have := (HXL.out k hk).2; omega))
  clear HR3 HB3 HX3 HGW
  refine (End_st (s := (t, 0)) HR4.out).mono ?_
  rintro en w5 ⟨rfl, rfl⟩
  rw [HNT.out]
  have HXQ := hide_ HX4.out
  go_wp2_with (refine st_msg (by rfl) _ _ (by rfl) (by rfl) (by rfl) rfl (by rfl) (by simp [Value.oneCell']) HXQ.out (by rfl) ?_; intro VZ HBZ HGZ HSZ)
  refine bodyPost_ret (v := .tuple #[.agg #[.int .u8 0, .int .u8 0, .int .u8 0, .int .u8 0, .int .u64 0, .int .u64 0, .int .u8 0, .int .u32 0, .bool false, .int .u64 0, .int .u8 0, .int .u32 0, .int .u8 0, .int .u64 0, .int .i64 0, .slice none 0 0, .slice none 0 0, .slice none 0 0, .int .u64 0, .slice none 0 0, .int .u64 0, .int .u8 0, .int .u32 0, .int .u64 0], .int .i64 4]) (res_msg2 (by rfl) (by rfl) (by rfl) HBZ.out rfl) rfl ?_
  exact ⟨zeroMsg, rfl, rfl, zeroMsg_good _ _, HB4.out.grown HGZ.out HB4.out.size fun j hj => by injection hj with hj; omega⟩

set_option maxRecDepth 100000 in
set_option maxHeartbeats 6400000 in
theorem Get_good (l : List UInt8) (m : MsgM) (A : Option Addr) (n c : Nat) (w : World) (hok : m.ok') (hget : ∀ t, getS (regB m.r.p ++ t, 0) = (m.r.p, (t, 0))) (hmay : mayM m.p = true) (hf : fitsL l = (msgB m.p ++ [], 0)) (hl : (msgB m.p ++ []).length ≤ 1000000) (hn : l.length = n) (hm : n ≤ 70368744177000) (hs : Sees w w.heap.size A (bv l)) (hc : n ≤ c) :
    Calls Tryz.prog 20 #[.slice A n c] w (GotM m.p 0 w) := by
  have hb0 : Below w.heap.size w (w.alloc (.cells #[.int .u8 0, .int .u8 0, .int .u8 0, .int .u8 0, .int .u64 0, .int .u64 0, .int .u8 0, .int .u32 0, .bool false, .int .u64 0, .int .u8 0, .int .u32 0, .int .u8 0, .int .u64 0, .int .i64 0, .slice none 0 0, .slice none 0 0, .slice none 0 0, .int .u64 0, .slice none 0 0, .int .u64 0, .int .u8 0, .int .u32 0, .int .u64 0] 51)) := (Below.refl _ _).alloc (Nat.le_refl _) _
  have HF := hide_ (Fits_to l (msgB m.p ++ []) 0 A n c (w.alloc (.cells #[.int .u8 0, .int .u8 0, .int .u8 0, .int .u8 0, .int .u64 0, .int .u64 0, .int .u8 0, .int .u32 0, .bool false, .int .u64 0, .int .u8 0, .int .u32 0, .int .u8 0, .int .u64 0, .int .i64 0, .slice none 0 0, .slice none 0 0, .slice none 0 0, .int .u64 0, .slice none 0 0, .int .u64 0, .int .u8 0, .int .u32 0, .int .u64 0] 51)) hf hn hm ((hs.below hb0).more (by simp)) hc)
  have HB0 := hide_ hb0
  have HX0 := hide_ (BoxAt.new w #[.int .u8 0, .int .u8 0, .int .u8 0, .int .u8 0, .int .u64 0, .int .u64 0, .int .u8 0, .int .u32 0, .bool false, .int .u64 0, .int .u8 0, .int .u32 0, .int .u8 0, .int .u64 0, .int .i64 0, .slice none 0 0, .slice none 0 0, .slice none 0 0, .int .u64 0, .slice none 0 0, .int .u64 0, .int .u8 0, .int .u32 0, .int .u64 0] 51)
  have HTK := hide_ (fun (g : Nat) (u : World) (h : Rdr u g (msgB m.p ++ []) 0) => take_put m m.r.p [] g u hok hget rfl h hl)
  have HMY := hide_ hmay
  have HLL := hide_ hl
  obtain ⟨mp, hmp⟩ : ∃ p, m.p = p := ⟨_, rfl⟩
  simp only [hmp] at HTK
  rw [hmp] at HF HLL
  rw [hmp] at HMY ⊢
  clear hf hn hm hs hc hb0 hok hget hl hmp hmay
  obtain ⟨bs, hbs⟩ : ∃ b, msgB mp ++ [] = b := ⟨_, rfl⟩
  rw [hbs] at HF HLL
  simp only [hbs] at HTK
  clear hbs
  go_enter Tryz.func20, Tryz.ntmps20
  go_wp2_with fail
  refine HF.out.mono ?_
  rintro en w1 ⟨A1, n1, c1, rfl, hn1, hs1, hb1⟩
  have HB1 := hide_ (HB0.out.trans (hb1.mono HB0.out.size))
  have HX1 := hide_ (HX0.out.below hb1)
  have HN1 := hide_ hn1
  have HS1 := hide_ hs1
  clear hb1 hn1 hs1 HX0 HF HB0
  go_wp2_with fail
  refine (New_any bs w1.heap.size A1 n1 c1 w1 HN1.out HS1.out (Nat.le_refl _) (by have := HLL.out; have := HN1.out; omega)).mono ?_
  rintro en w2 ⟨g, rfl, hg, hr2, hb2⟩
  have HB2 := hide_ (HB1.out.trans (hb2.mono HB1.out.size))
  have HX2 := hide_ (HX1.out.below hb2)
  have HG := hide_ (show w.heap.size < g from Nat.lt_of_lt_of_le HX1.out.lt hg)
  have HR2 := hide_ hr2
  have HLT := hide_ hr2.glt
  clear hb2 hg hr2 HX1 HB1 HS1 HN1
  go_wp2_with fail
  refine (HTK.out g w2 HR2.out).mono ?_
  rintro en w3 ⟨x, rfl, hxp, hxg, hxl, hr3, hg3⟩
  have HB3 := hide_ (HB2.out.grown hg3 HB2.out.size fun j hj => by injection hj with hj; have := HG.out; omega)
  have HX3 := hide_ (show BoxAt w3 w.heap.size _ _ from box_far hg3 HX2.out (by have := HG.out; omega))
  have HXP := hide_ hxp
  have HXG := hide_ hxg
  have HXL := hide_ (show ∀ k, RegM.ft x.r k → w.heap.size < k ∧ k < w3.heap.size from fun k hk => ⟨Nat.lt_of_lt_of_le HX2.out.lt (hxl k hk).1, (hxl k hk).2⟩)
  have HR3 := hide_ hr3
  have HLT3 := hide_ hr3.glt
  clear hxp hxg hxl hr3 hg3 HX2 HB2 HR2 HTK HLT
  obtain ⟨V, hV⟩ : ∃ V, x.v = V := ⟨_, rfl⟩
  rw [hV]
  have HV := hide_ (show V = .agg x.box from hV.symm)
  clear hV
  go_wp2_with (refine st_msg (by rfl) _ _ (by rfl) (by rfl) (by rfl) HV.out (by rfl) (by simp [MsgM.box, Value.oneCell']) (BoxAt.new w3 #[.int .u8 0, .int .u8 0, .int .u8 0, .int .u8 0, .int .u64 0, .int .u64 0, .int .u8 0, .int .u32 0, .bool false, .int .u64 0, .int .u8 0, .int .u32 0, .int .u8 0, .int .u64 0, .int .i64 0, .slice none 0 0, .slice none 0 0, .slice none 0 0, .int .u64 0, .slice none 0 0, .int .u64 0, .int .u8 0, .int .u32 0, .int .u64 0] 51) (by rfl) ?_; intro W3 HBW HGW HSW)
  have HR4 := hide_ ((HR3.out.made (.cells #[.int .u8 0, .int .u8 0, .int .u8 0, .int .u8 0, .int .u64 0, .int .u64 0, .int .u8 0, .int .u32 0, .bool false, .int .u64 0, .int .u8 0, .int .u32 0, .int .u8 0, .int .u64 0, .int .i64 0, .slice none 0 0, .slice none 0 0, .slice none 0 0, .int .u64 0, .slice none 0 0, .int .u64 0, .int .u8 0, .int .u32 0, .int .u64 0] 51)).other HGW.out (fun k e => by injection e with e; have := HLT3.out; omega))
  have HB4 := hide_ ((HB3.out.alloc HB3.out.size (.cells #[.int .u8 0, .int .u8 0, .int .u8 0, .int .u8 0, .int .u64 0, .int .u64 0, .int .u8 0, .int .u32 0, .bool false, .int .u64 0, .int .u8 0, .int .u32 0, .int .u8 0, .int .u64 0, .int .i64 0, .slice none 0 0, .slice none 0 0, .slice none 0 0, .int .u64 0, .slice none 0 0, .int .u64 0, .int .u8 0, .int .u32 0, .int .u64 0] 51)).grown HGW.out (by have := HB3.out.size; simp; omega) fun j hj => by injection hj with hj; have := HB3.out.size; omega)
  have HX4 := hide_ (show BoxAt W3 w.heap.size _ _ from box_far HGW.out (HX3.out.alloc (.cells #[.int .u8 0, .int .u8 0, .int .u8 0, .int .u8 0, .int .u64 0, .int .u64 0, .int .u8 0, .int .u32 0, .bool false, .int .u64 0, .int .u8 0, .int .u32 0, .int .u8 0, .int .u64 0, .int .i64 0, .slice none 0 0, .slice none 0 0, .slice none 0 0, .int .u64 0, .slice none 0 0, .int .u64 0, .int .u8 0, .int .u32 0, .int .u64 0] 51)) (by have := HX3.out.lt; omega))
  have HO4 := hide_ (Local.grown reg_local (Local.below reg_local HXG.out.2 ((Below.refl _ _).alloc (Nat.le_refl _) (.cells #[.int .u8 0, .int .u8 0, .int .u8 0, .int .u8 0, .int .u64 0, .int .u64 0, .int .u8 0, .int .u32 0, .bool false, .int .u64 0, .int .u8 0, .int .u32 0, .int .u8 0, .int .u64 0, .int .i64 0, .slice none 0 0, .slice none 0 0, .slice none 0 0, .int .u64 0, .slice none 0 0, .int .u64 0, .int .u8 0, .int .u32 0, .int .u64 0] 51))) HGW.out (fun k hk e => by injection e with e; have := (HXL.out k hk).2; omega))
  clear HR3 HB3 HX3 HGW
  refine (End_st (s := ([], 0)) HR4.out).mono ?_
  rintro en w5 ⟨rfl, rfl⟩
  rw [show endS (([] : List UInt8), 0) = 0 from rfl]
  have HMX := hide_ (mayMsg_any x W3.heap.size W3 ⟨HXG.out.1, HO4.out⟩ (Nat.le_refl _))
  rw [HXP.out, HMY.out] at HMX
  go_wp2_with (refine ld_msg (by rfl) _ (by rfl) HBW.out (by rfl) (by rfl) ?_)
  refine HMX.out.mono ?_
  rintro en w6 ⟨rfl, hb6⟩
  have HB6 := hide_ (HB4.out.trans (hb6.mono HB4.out.size))
  have HXQ := hide_ (HX4.out.below hb6)
  have HBX := hide_ (HBW.out.below hb6)
  have HO6 := hide_ (Local.below reg_local HO4.out hb6)
  clear hb6 HMX
  go_wp2_with (first | (refine ld_msg (by rfl) _ (by rfl) HBX.out (by rfl) (by rfl) ?_) | (refine st_msg (by rfl) _ _ (by rfl) (by rfl) (by rfl) rfl (by rfl) (by simp [MsgM.box, Value.oneCell']) HXQ.out (by rfl) ?_; intro VZ HBZ HGZ HSZ))
  refine bodyPost_ret (v := .tuple #[.agg x.box, .int .i64 0]) (res_msg2 (by rfl) (by rfl) (by rfl) HBZ.out (by rfl)) rfl ?_
  exact ⟨x, rfl, HXP.out, ⟨HXG.out.1, Local.grown reg_local HO6.out HGZ.out (fun k hk e => by injection e with e; have := (HXL.out k hk).1; omega)⟩, HB6.out.grown HGZ.out HB6.out.size fun j hj => by injection hj with hj; omega⟩
end Go.Proofs.YtkgnondlcaklnaaGreat

/-
  How messages come in; the example of layer 11.
-/
namespace Go.Proofs.YtkgnondlcaklnaaGreat
open Go.ChangeShapes Go.WideShapes Go.ChangeAt Go.RowKit Go.Joins Go.Deep

section
variable {H : Type} {enc : TypeId × Value → H} {w : World} {base : Nat} {spare : Nat → Bool} {held : Bool}

theorem nat_u64 {x : Int} (h : U64 x) : ∃ n : Nat, x = n ∧ N64 n := by
  obtain ⟨n, rfl⟩ := Int.eq_ofNat_of_zero_le h.1
  exact ⟨n, rfl, by have := h.2; unfold N64; omega⟩
theorem nat_u8 {x : Int} (h : 0 ≤ x ∧ x ≤ 255) : ∃ n : Nat, x = n ∧ n ≤ 255 := by
  obtain ⟨n, rfl⟩ := Int.eq_ofNat_of_zero_le h.1
  exact ⟨n, rfl, by omega⟩
theorem open_u32n {n : Nat} {t : TypeId} {v : Value} {y : DataW H × List MemPlace} (ht : Tryz.prog.underlying t = some (.int .u32)) (h : DataW.trod enc Tryz.prog w base spare held n t [v] = some y) : ∃ x : Nat, v = .int .u32 x ∧ x ≤ 4294967295 := by
  obtain ⟨a, rfl, wa⟩ := open_numI ht h
  have h2 : 0 ≤ a ∧ a ≤ 4294967295 := by simpa [Lit.wf, IntKind.min, IntKind.max, IntKind.signed, IntKind.bits] using wa
  obtain ⟨m, rfl⟩ := Int.eq_ofNat_of_zero_le h2.1
  exact ⟨m, rfl, by omega⟩
theorem open_u64n {n : Nat} {t : TypeId} {v : Value} {y : DataW H × List MemPlace} (ht : Tryz.prog.underlying t = some (.int .u64)) (h : DataW.trod enc Tryz.prog w base spare held n t [v] = some y) : ∃ x : Nat, v = .int .u64 x ∧ N64 x := by
  obtain ⟨a, rfl, wa⟩ := open_u64c ht h
  obtain ⟨m, rfl, hm⟩ := nat_u64 wa
  exact ⟨m, rfl, hm⟩
theorem open_u8n {n : Nat} {t : TypeId} {v : Value} {y : DataW H × List MemPlace} (ht : Tryz.prog.underlying t = some (.int .u8)) (h : DataW.trod enc Tryz.prog w base spare held n t [v] = some y) : ∃ x : Nat, v = .int .u8 x ∧ x ≤ 255 := by
  obtain ⟨a, rfl, wa⟩ := open_u8c ht h
  obtain ⟨m, rfl, hm⟩ := nat_u8 wa
  exact ⟨m, rfl, hm⟩

set_option maxRecDepth 100000 in
theorem el_bal {n : Nat} {xs : List Value} {y : DataW H × List MemPlace} (hl : xs.length = 3) (h : DataW.trod enc Tryz.prog w base spare held n 49 xs = some y) : ∃ a b c : Nat, xs = [.int .u64 a, .int .u8 b, .int .u32 c] ∧ BalIn a b c := by
  match xs, hl with
  | [c0, c1, c2], _ =>
    obtain ⟨_, _, h0⟩ := field_at Tryz.underlying49 h 0 rfl rfl rfl (by kernel_rfl) rfl
    obtain ⟨_, _, h1⟩ := field_at Tryz.underlying49 h 1 rfl rfl rfl (by kernel_rfl) rfl
    obtain ⟨_, _, h2⟩ := field_at Tryz.underlying49 h 2 rfl rfl rfl (by kernel_rfl) rfl
    obtain ⟨a, rfl, ha⟩ := open_u64n Tryz.underlying25 h0
    obtain ⟨b, rfl, hb⟩ := open_u8n Tryz.underlying5 h1
    obtain ⟨c, rfl, hc⟩ := open_u32n Tryz.underlying47 h2
    exact ⟨a, b, c, rfl, ha, hb, hc⟩

set_option maxRecDepth 100000 in
theorem el_msg {n : Nat} {xs : List Value} {y : DataW H × List MemPlace} (hl : xs.length = 24) (h : DataW.trod enc Tryz.prog w base spare held n 51 xs = some y) : ∃ m : MsgM, xs = m.box.toList ∧ MsgM.good w w.heap.size m := by
  match xs, hl with
  | [c0, c1, c2, c3, c4, c5, c6, c7, c8, c9, c10, c11, c12, c13, c14, c15, c16, c17, c18, c19, c20, c21, c22, c23], _ =>
    obtain ⟨_, _, h0⟩ := field_at Tryz.underlying51 h 0 rfl rfl rfl (by kernel_rfl) rfl
    obtain ⟨_, _, h1⟩ := field_at Tryz.underlying51 h 1 rfl rfl rfl (by kernel_rfl) rfl
    obtain ⟨_, _, h2⟩ := field_at Tryz.underlying51 h 2 rfl rfl rfl (by kernel_rfl) rfl
    obtain ⟨_, _, h3⟩ := field_at Tryz.underlying51 h 3 rfl rfl rfl (by kernel_rfl) rfl
    obtain ⟨_, _, h4⟩ := field_at Tryz.underlying51 h 4 rfl rfl rfl (by kernel_rfl) rfl
    obtain ⟨_, _, h5⟩ := field_many (cs := [c5, c6, c7]) (q := 3) Tryz.underlying51 h 5 rfl rfl rfl (by kernel_rfl) rfl
    obtain ⟨_, _, h6⟩ := field_at Tryz.underlying51 h 6 rfl rfl rfl (by kernel_rfl) rfl
    obtain ⟨_, _, h7⟩ := field_many (cs := [c9, c10, c11]) (q := 3) Tryz.underlying51 h 7 rfl rfl rfl (by kernel_rfl) rfl
    obtain ⟨_, _, h8⟩ := field_many (cs := [c12, c13, c14, c15, c16, c17, c18, c19]) (q := 8) Tryz.underlying51 h 8 rfl rfl rfl (by kernel_rfl) rfl
    obtain ⟨_, _, h9⟩ := field_many (cs := [c20, c21, c22]) (q := 3) Tryz.underlying51 h 9 rfl rfl rfl (by kernel_rfl) rfl
    obtain ⟨_, _, h10⟩ := field_at Tryz.underlying51 h 10 rfl rfl rfl (by kernel_rfl) rfl
    obtain ⟨ki, rfl, b0⟩ := open_u8n Tryz.underlying5 h0
    obtain ⟨fr, rfl, b1⟩ := open_u8n Tryz.underlying5 h1
    obtain ⟨tt, rfl, b2⟩ := open_u8n Tryz.underlying5 h2
    obtain ⟨ke, rfl, b3⟩ := open_u8n Tryz.underlying5 h3
    obtain ⟨co, rfl, b4⟩ := open_u64n Tryz.underlying25 h4
    obtain ⟨bc, bn, bl, e5, b5⟩ := el_bal rfl h5
    obtain ⟨ok, e6, _⟩ := DataW.trod_bool Tryz.underlying4 h6
    obtain ⟨ac, an, al, e7, b7⟩ := el_bal rfl h7
    obtain ⟨r, e8, b8⟩ := el_reg rfl h8
    obtain ⟨nc, nn, nl, e9, b9⟩ := el_bal rfl h9
    obtain ⟨mx, rfl, b10⟩ := open_u64n Tryz.underlying25 h10
    simp only [List.cons.injEq, and_true] at e5 e6 e7 e9
    simp only [RegM.cs, List.cons.injEq, and_true] at e8
    obtain ⟨rfl, rfl, rfl⟩ := e5
    obtain rfl := e6
    obtain ⟨rfl, rfl, rfl⟩ := e7
    obtain ⟨rfl, rfl, rfl, rfl, rfl, rfl, rfl, rfl⟩ := e8
    obtain ⟨rfl, rfl, rfl⟩ := e9
    exact ⟨⟨ki, fr, tt, ke, co, bc, bn, bl, ok, ac, an, al, r, nc, nn, nl, mx⟩, rfl, ⟨⟨b0, b1, b2, b3⟩, ⟨b4, b10⟩, b5, b7, b9⟩, b8⟩

set_option maxRecDepth 100000 in
/-- a message that comes in -/
theorem open_msg {r : Reach} {b0 : Nat} {v : Value} {d : DataW H} {p : List MemPlace} (hv : Value.okWide Tryz.prog w r b0 51 v) (h : DataW.Trod enc Tryz.prog w base spare held 51 v d p) :
    ∃ m : MsgM, v = m.v ∧ MsgM.good w w.heap.size m := by
  obtain ⟨cs, rfl, hsz⟩ := okWide_struct Tryz.underlying51 hv
  obtain ⟨fuel, hf⟩ := h
  obtain ⟨l⟩ := cs
  have h8 : Tryz.prog.cellsOf 51 = 24 := by kernel_rfl
  have hl : l.length = 24 := hsz.trans h8
  obtain ⟨s, e, hs⟩ := el_msg (by simpa [Value.cells] using hl) hf
  refine ⟨s, ?_, hs⟩
  have e2 : l = s.box.toList := by simpa [Value.cells] using e
  rw [e2]
  rfl
end

def exM : MsgM := ⟨1, 1, 2, 0, 0, 1, 1, 0, false, 0, 0, 0, zeroM, 0, 0, 0, 0⟩
theorem exM_may : mayM exM.p = true := by decide
theorem exM_len : (markB (msgB exM.p)).length = 21 := by
  rw [markB_length]
  have h : (msgB exM.p).length = 17 := by kernel_rfl
  rw [h]

set_option maxRecDepth 100000 in
theorem awake11_any (w : World) : Calls Tryz.prog 15 #[] w fun e w' => e = .returned (.bool true) ∧ Below w.heap.size w w' := by
  have HP := hide_ (putMsg_any exM w ⟨by simp [MsgM.ok', BalIn, N64, exM], zeroM_ok _ _⟩)
  rw [putM_yes exM_may] at HP
  have HL := hide_ exM_len
  obtain ⟨b, hb⟩ : ∃ b, markB (msgB exM.p) = b := ⟨_, rfl⟩
  rw [hb] at HP HL
  clear hb
  go_enter Tryz.func15, Tryz.ntmps15
  go_wp2_with fail
  refine HP.out.mono ?_
  rintro en w1 ⟨A1, c1, rfl, -, hb1⟩
  simp only [HL.out]
  go_wp2
  go_ret
  exact ⟨rfl, hb1⟩
end Go.Proofs.YtkgnondlcaklnaaGreat

/-
  Mathematics of messages' bytes: how long they are, what bytes behind them, or in their place, come to.
-/
namespace Go.Proofs.YtkgnondlcaklnaaGreat
open Go.RowKit

theorem msgB_len {w : World} {B : Nat} {m : MsgM} (hm : MsgM.good w B m) (hmay : mayM m.p = true) : 9 ≤ (msgB m.p).length ∧ (msgB m.p).length ≤ 10200 := by
  obtain ⟨⟨⟨b0, b1, b2, b3⟩, ⟨b4, b5⟩, b6, b7, b8⟩, hr⟩ := hm
  have n0 := numB_length m.ki (by omega)
  have n1 := numB_length m.fr (by omega)
  have n2 := numB_length m.tt (by omega)
  have n3 := numB_length m.ke (by omega)
  have n4 := numB_length m.co b4
  have n5 := numB_length m.mx b5
  have n6 := balB_length b6.1 b6.2.1 b6.2.2
  have n7 := balB_length b7.1 b7.2.1 b7.2.2
  have n8 := balB_length b8.1 b8.2.1 b8.2.2
  have n9 := numB_length (okN m.ok) (by cases m.ok <;> simp [okN])
  have n10 := (regB_len hr (may_reg hmay)).2
  have p6 := balB_pos m.bc m.bn m.bl
  have p7 := balB_pos m.ac m.an m.al
  have p8 := balB_pos m.nc m.nn m.nl
  have e : (msgB m.p).length = (numB m.ki).length + ((numB m.fr).length + ((numB m.tt).length + ((numB m.ke).length + ((numB m.co).length + ((balB m.bc m.bn m.bl).length + ((numB (okN m.ok)).length + ((balB m.ac m.an m.al).length + ((regB m.r.p).length + ((balB m.nc m.nn m.nl).length + (numB m.mx).length))))))))) := by
    simp only [msgB, List.length_append, MsgM.p]
  omega

/-- marked bytes with bytes behind them: their mark doesn't fit, or the bytes stand ahead of others -/
theorem more_fits (b t : List UInt8) (ht : t ≠ []) : fitsL (markB b ++ t) = ([], 5) ∨ ∃ u, u ≠ [] ∧ u.length ≤ t.length + 4 ∧ fitsL (markB b ++ t) = (b ++ u, 0) := by
  have hpos : 0 < t.length := List.length_pos_iff.2 ht
  have hlen : (markB b ++ t).length = b.length + 4 + t.length := by rw [List.length_append, markB_length]
  have h4 : ¬ (markB b ++ t).length < 4 := by omega
  by_cases he : markB ((markB b ++ t).take ((markB b ++ t).length - 4)) = markB b ++ t
  · right
    have hu : (markB b ++ t).take ((markB b ++ t).length - 4) = b ++ (le4 (crc b) ++ t).take t.length := by
      rw [hlen, show b.length + 4 + t.length - 4 = b.length + t.length by omega]
      unfold markB
      rw [List.append_assoc, List.take_append, List.take_of_length_le (by omega), Nat.add_sub_cancel_left]
    refine ⟨(le4 (crc b) ++ t).take t.length, fun h => ?_, by rw [List.length_take]; omega, ?_⟩
    · have h1 := congrArg List.length h
      rw [List.length_take, List.length_append, List.length_nil] at h1
      omega
    · rw [fitsL_yes h4 he, hu]
  · left
    exact fitsL_no h4 he

theorem Get_more (m : MsgM) (B : Nat) (w0 : World) (t r : List UInt8) (A : Option Addr) (n c : Nat) (w : World) (hm : MsgM.good w0 B m) (hmay : mayM m.p = true) (hne : t ≠ []) (ht : t.length ≤ 500) (hr : markB (msgB m.p) ++ t = r) (hn : r.length = n) (hs : Sees w w.heap.size A (bv r)) (hc : n ≤ c) :
    Calls Tryz.prog 20 #[.slice A n c] w fun e w' => ∃ er : Int, er ≠ 0 ∧ GotM zeroMsg.p er w e w' := by
  have hl := msgB_len hm hmay
  have hn2 : n ≤ 70368744177000 := by
    rw [← hn, ← hr, List.length_append, markB_length]
    omega
  rcases more_fits (msgB m.p) t hne with h | ⟨u, hu, hul, h⟩
  · rw [hr] at h
    exact (Get_bad r 5 A n c w h (by omega) hn hn2 hs hc).mono fun _ _ h1 => ⟨5, by omega, h1⟩
  · rw [hr] at h
    exact (Get_long r m u A n c w hm.1 (getS_puts hm.2 (may_reg hmay)) hu h (by rw [List.length_append]; omega) hn hn2 hs hc).mono fun _ _ h1 => ⟨4, by omega, h1⟩

theorem Get_left (m : MsgM) (B : Nat) (w0 : World) (t r : List UInt8) (A : Option Addr) (n c : Nat) (w : World) (hm : MsgM.good w0 B m) (hmay : mayM m.p = true) (hne : t ≠ []) (ht : t.length ≤ 500) (hr : markB (msgB m.p ++ t) = r) (hn : r.length = n) (hs : Sees w w.heap.size A (bv r)) (hc : n ≤ c) :
    Calls Tryz.prog 20 #[.slice A n c] w (GotM zeroMsg.p 4 w) := by
  have hl := msgB_len hm hmay
  have h := fitsL_mark (msgB m.p ++ t)
  rw [hr] at h
  refine Get_long r m t A n c w hm.1 (getS_puts hm.2 (may_reg hmay)) hne h (by rw [List.length_append]; omega) hn ?_ hs hc
  rw [← hn, ← hr, markB_length, List.length_append]
  omega

theorem Get_back (m : MsgM) (B : Nat) (w0 : World) (r : List UInt8) (A : Option Addr) (n c : Nat) (w : World) (hm : MsgM.good w0 B m) (hmay : mayM m.p = true) (hr : markB (msgB m.p) = r) (hn : r.length = n) (hs : Sees w w.heap.size A (bv r)) (hc : n ≤ c) :
    Calls Tryz.prog 20 #[.slice A n c] w (GotM m.p 0 w) := by
  have hl := msgB_len hm hmay
  have h := fitsL_mark (msgB m.p)
  rw [hr] at h
  refine Get_good r m A n c w hm.1 (getS_puts hm.2 (may_reg hmay)) hmay (by rw [List.append_nil]; exact h) (by rw [List.append_nil]; omega) hn ?_ hs hc
  rw [← hn, ← hr, markB_length]
  omega
end Go.Proofs.YtkgnondlcaklnaaGreat
