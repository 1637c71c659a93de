/-
  A step of the disk's and of the document's, kind by kind.
-/
import Derived.Test.YtcpoppfifadbiaaRd12j
import Derived.Test.YtcpoppfifadbiaaRd12h
namespace Go.Proofs.Ytcpoppfifadbiaa
open Go.RowKit

section
variable {w : World} {L : Lay} {D : Dk}
set_option maxRecDepth 100000 in
set_option maxHeartbeats 1600000 in
theorem does0_any (h : DiskAt w L D) (x : RdM) (hx : RdM.ok w x) (hp : x.p = refOf D) (s : StM) (hk : s.ki = 0) : Calls Try.prog 11 #[.pointer (some ⟨L.b, 0, none⟩), x.v, .agg s.cs.toArray] w (DoesP L (D) w) := by
  obtain ⟨W0, hW0⟩ : ∃ W, ((w.alloc (.cells x.cs 34)).alloc (.cells s.cs.toArray 40)).alloc (.cells #[.int .i64 0, .int .i64 0, .slice none 0 0, .slice none 0 0, .bool false, .int .u64 0, .int .i64 0] 34) = W := ⟨_, rfl⟩
  have HD0 := hide_ (DoS.start (s := s) h hx hW0)
  have HW0 := hide_ hW0
  have HDK := hide_ h.ok
  have HPX := hide_ hp
  clear h hx hp hW0
  obtain ⟨n, c, kA, kc, k, wA, wc, ws, off, falls, fuse⟩ := x
  obtain ⟨ki, i, q, ⟨bA, bc, bl⟩, t, y⟩ := s
  simp only at hk
  subst hk
  simp only [RdM.v, RdM.cs, StM.cs, Sl.v] at HW0 ⊢
  go_enter Try.func11, Try.ntmps11
  go_upto_region 1 with fail
  rw [HW0.out]
  have hco := HD0.out.o.cell
  simp only [StM.cs, Sl.v] at hco
  have HS := hide_ (Read_any HD0.out.d i)
  go_wp2_with fail
  refine HS.out.mono ?_
  rintro e w1 ⟨A, cp, rfl, hown, hb⟩
  have HD1 := hide_ (HD0.out.below hb)
  have HRS := hide_ (refRead12_any ⟨n, c, kA, kc, k, wA, wc, ws, off, falls, fuse⟩ i w1 HD1.out.ok)
  rw [HPX.out, rerr_ref, read_ref] at HRS
  simp only [RdM.v, RdM.cs] at HRS
  have HOW := hide_ (Sees.ownRow9 hown)
  obtain ⟨er, her⟩ : ∃ z, reachD D i = z := ⟨_, rfl⟩
  obtain ⟨rl, hrl⟩ : ∃ z, rdB D i = z := ⟨_, rfl⟩
  rw [her, hrl] at HRS
  rw [hrl] at HOW
  rw [her, hrl]
  clear hown hb HS her hrl hco
  have hcm := HD1.out.m.cell
  have hco := HD1.out.o.cell
  simp only [RdM.cs] at hcm
  simp only [StM.cs, Sl.v] at hco
  go_wp2_with fail
  refine HRS.out.mono ?_
  rintro e w2 ⟨rfl, hby⟩
  have HD3 := hide_ (HD1.out.below hby)
  have hcv := run_str (P := Try.prog) w2 38 9 5 Try.underlying38 Try.underlying5 Try.underlying9 rl _ A rl.length cp rfl (HOW.out.below hby)
  have hcv2 := run_str (P := Try.prog) w2.drew 38 9 5 Try.underlying38 Try.underlying5 Try.underlying9 rl _ A rl.length cp rfl ((HOW.out.below hby).below (Below.refl _ _).drew)
  have HZ := hide_ HD3.out.z
  clear hcm hco hby
  have hcn := HD3.out.m.cell
  simp only [RdM.cs] at hcn
  have hcz := HZ.out.cell
  have hfz := HZ.out.free9
  go_upto_region 5 with fail
  go_region
  go_wp2
  clear hcn hcz hfz hcv hcv2
  have HE := hide_ (HZ.out.put7 (.int .i64 (n : Int)) (.int .i64 (c : Int)) (.slice kA k.length kc) (.slice wA ws.length wc) (.bool off) (.int .u64 falls) (.int .i64 fuse))
  have hq := HE.out.cell
  have q0 := hq 0
  have q1 := hq 1
  have q2 := hq 2
  have q3 := hq 3
  have q4 := hq 4
  have q5 := hq 5
  have q6 := hq 6
  simp only [List.getElem?_toArray, List.getElem?_cons_zero, List.getElem?_cons_succ] at q0 q1 q2 q3 q4 q5 q6
  clear hq
  refine bodyPost_ret (v := .tuple #[.bool true, .agg #[.int .i64 (n : Int), .int .i64 (c : Int), .slice kA k.length kc, .slice wA ws.length wc, .bool off, .int .u64 falls, .int .i64 fuse]]) (by simp [results, Try.results11, go_sem, q0, q1, q2, q3, q4, q5, q6]) rfl ?_
  have hG := grown_put7 w2 (w.heap.size + 1 + 1) (.int .i64 (n : Int)) (.int .i64 (c : Int)) (.slice kA k.length kc) (.slice wA ws.length wc) (.bool off) (.int .u64 falls) (.int .i64 fuse)
  exact HD3.out.fin (y := ⟨n, c, kA, kc, k, wA, wc, ws, off, falls, fuse⟩) HD3.out.ok HPX.out hG ((Below.refl _ _).drew)
set_option maxRecDepth 100000 in
set_option maxHeartbeats 1600000 in
theorem does1_any (h : DiskAt w L D) (x : RdM) (hx : RdM.ok w x) (hp : x.p = refOf D) (s : StM) (hk : s.ki = 1) (B : Nat) (hLB : ∀ g, L.has g → B ≤ g) (hBw : B ≤ w.heap.size) (hbs : bytesOk w B s.b) (hn : D.waits.length + 1 ≤ 100000) (hl : s.b.l.length ≤ 999999) : Calls Try.prog 11 #[.pointer (some ⟨L.b, 0, none⟩), x.v, .agg s.cs.toArray] w (DoesP L (writeD D s.i s.b.l) w) := by
  obtain ⟨W0, hW0⟩ : ∃ W, ((w.alloc (.cells x.cs 34)).alloc (.cells s.cs.toArray 40)).alloc (.cells #[.int .i64 0, .int .i64 0, .slice none 0 0, .slice none 0 0, .bool false, .int .u64 0, .int .i64 0] 34) = W := ⟨_, rfl⟩
  have HD0 := hide_ (DoS.start (s := s) h hx hW0)
  have HB0 := hide_ (DoS.start_below hW0)
  have HLT := hide_ (fun g (e : L.has g) => h.lt e)
  have HW0 := hide_ hW0
  have HDK := hide_ h.ok
  have HPX := hide_ hp
  clear h hx hp hW0
  obtain ⟨n, c, kA, kc, k, wA, wc, ws, off, falls, fuse⟩ := x
  obtain ⟨ki, i, q, ⟨bA, bc, bl⟩, t, y⟩ := s
  simp only at hk
  subst hk
  simp only [RdM.v, RdM.cs, StM.cs, Sl.v] at HW0 ⊢
  go_enter Try.func11, Try.ntmps11
  go_upto_region 1 with fail
  rw [HW0.out]
  have hco := HD0.out.o.cell
  simp only [StM.cs, Sl.v] at hco
  simp only at hbs hl
  have HS0 := hide_ hbs.1
  have H0 := hide_ (own_empty9 (w := W0) (base := W0.heap.size) (s := 1) 5 (Nat.le_refl _))
  have HA0 := hide_ (show Below W0.heap.size W0 (W0.alloc (.cells #[] 5)) from (Below.refl _ _).alloc (Nat.le_refl _) _)
  have HSB := hide_ ((hbs.1.below (HB0.out.mono hBw)).below (HA0.out.mono (Nat.le_trans hBw HB0.out.size)))
  have HLB := hide_ hLB
  have hbl : B ≤ W0.heap.size := Nat.le_trans hBw HB0.out.size
  clear hbs hLB
  have hco2 := (HD0.out.o.alloc (.cells #[] 5)).cell
  simp only [StM.cs, Sl.v] at hco2
  go_upto_region 8 with (at_builtin; refine wpList_append_grown _ rfl _ _ 38 rfl W0.heap.size 5 _ 1 1 u8_info rfl (by omega) Try.underlying38 _ 0 [] rfl H0.out B bA bl.length bc (bv bl) rfl (by rw [bv_length, Nat.mul_one]) HSB.out (bv_oneCell _) (by omega) (by omega) (by simp) bl.length (by omega) (bv bl) rfl ?_; intro A1 c1 w1 hown hb; have HO1 := hide_ hown; have HG1 := hide_ (show (W0.alloc (.cells #[] 5)).grownBy w1 (some W0.heap.size) from hb); clear hown hb)
  have HB1 := hide_ (HA0.out.grown HG1.out (by simp) (fun k e => by injection e with e; omega))
  have HD1 := hide_ (HD0.out.below HB1.out)
  have hLW : ∀ g, L.has g → g < W0.heap.size := fun g e => Nat.lt_of_lt_of_le (HLT.out g e) HB0.out.size
  have HW1 := hide_ (Own99.start (w := w) (L1 := L) rfl HO1.out HB0.out.size hLW)
  have HS := hide_ (Write_any HD1.out.d i bl w1.heap.size A1 bl.length c1 (Sees.ownRow9 HO1.out) rfl (Nat.le_refl _) hn (by omega))
  clear hco hco2 hLW
  have hco := HD1.out.o.cell
  simp only [StM.cs, Sl.v] at hco
  go_wp2_with fail
  refine HS.out.mono ?_
  rintro e w2 ⟨rfl, hdo⟩
  obtain ⟨L2, hd2, hc2, hs2⟩ := HD1.out.turn2 hdo
  have HD2 := hide_ hd2
  have HW2 := hide_ (HW1.out.turn hc2 hs2)
  have HSS := hide_ (((HS0.out.below (HB0.out.mono hBw)).below (HB1.out.mono hbl)).below (hc2.below (Nat.le_trans hbl HB1.out.size) HLB.out))
  have hwl : ws.length + 1 ≤ 100000 := by
    have e : ws = D.waits := congrArg RP.ws HPX.out
    rw [e]
    exact hn
  have HRS := hide_ (refWrite12_any ⟨n, c, kA, kc, k, wA, wc, ws, off, falls, fuse⟩ i bl w2 HD2.out.ok hwl)
  have e1 := write_ref HDK.out i bl
  rw [HPX.out, e1.1, e1.2] at HRS
  simp only [RdM.v, RdM.cs] at HRS
  obtain ⟨er, her⟩ : ∃ z, errD D i bl.length = z := ⟨_, rfl⟩
  rw [her] at HRS ⊢
  have hcv := run_str (P := Try.prog) w2 38 9 5 Try.underlying38 Try.underlying5 Try.underlying9 bl _ bA bl.length bc rfl HSS.out
  clear hd2 hc2 hs2 hdo HS e1 her hco
  have hcm := HD2.out.m.cell
  have hco := HD2.out.o.cell
  simp only [RdM.cs] at hcm
  simp only [StM.cs, Sl.v] at hco
  go_wp2_with fail
  refine HRS.out.mono ?_
  rintro e w3 ⟨y1, rfl, hpy, hoy, hby⟩
  obtain ⟨n1, c1', kA1, kc1, k1, wA1, wc1, ws1, off1, falls1, fuse1⟩ := y1
  simp only [RdM.v, RdM.cs]
  obtain ⟨W3, hW3⟩ : ∃ W, w3.alloc (.cells #[.int .i64 (n1 : Int), .int .i64 (c1' : Int), .slice kA1 k1.length kc1, .slice wA1 ws1.length wc1, .bool off1, .int .u64 falls1, .int .i64 fuse1] 34) = W := ⟨_, rfl⟩
  have ha3 : Below w3.heap.size w3 W3 := hW3 ▸ (Below.refl _ _).alloc (Nat.le_refl _) _
  have HN3 := hide_ (show BoxAt W3 w3.heap.size #[.int .i64 (n1 : Int), .int .i64 (c1' : Int), .slice kA1 k1.length kc1, .slice wA1 ws1.length wc1, .bool off1, .int .u64 falls1, .int .i64 fuse1] 34 from hW3 ▸ BoxAt.new w3 _ _)
  have HD3 := hide_ ((HD2.out.below hby).below ha3)
  have HO3 := hide_ (hoy.below ha3)
  have HP3 := hide_ hpy
  have HW3' := hide_ hW3
  have HR3 := hide_ ((HW2.out.below hby).below ha3)
  obtain ⟨g3, hg3⟩ : ∃ g, w3.heap.size = g := ⟨_, rfl⟩
  have HG3 := hide_ hg3
  rw [hg3] at HN3
  clear hcm hco hoy hpy hby ha3 hW3 hg3 hcv
  go_upto_region 10 with fail
  rw [HW3'.out, HG3.out]
  go_wp2
  go_loopw [16] (fun kv wr => ∃ j : Nat, j ≤ bl.length ∧ kv = .int .i64 (j : Int) ∧ Hid (DoS w L L2 ⟨n, c, kA, kc, k, wA, wc, ws, off, falls, fuse⟩ ⟨1, i, q, ⟨bA, bc, bl⟩, t, y⟩ (writeD D i bl) wr) ∧ Hid (RdM.ok wr ⟨n1, c1', kA1, kc1, k1, wA1, wc1, ws1, off1, falls1, fuse1⟩) ∧ Hid (BoxAt wr g3 #[.int .i64 (n1 : Int), .int .i64 (c1' : Int), .slice kA1 k1.length kc1, .slice wA1 ws1.length wc1, .bool off1, .int .u64 falls1, .int .i64 fuse1] 34) ∧ Hid (Own99 w L2 A1 bl.length wr)) (fun kv _ => bl.length - (intOf kv).toNat)
  case atStart => exact ⟨0, Nat.zero_le _, rfl, HD3, HO3, HN3, HR3⟩
  case round =>
    obtain ⟨j, hj, rfl, HD, HO, HN, HR⟩ := hrel
    by_cases hlt : j < bl.length
    case neg =>
      have HZ := hide_ HD.out.z
      have hcn := HN.out.cell
      have hcz := HZ.out.cell
      have hfz := HZ.out.free9
      go_wp2
      go_region
      go_wp2
      clear hcn hcz hfz
      have HE := hide_ (HZ.out.put7 (.int .i64 (n1 : Int)) (.int .i64 (c1' : Int)) (.slice kA1 k1.length kc1) (.slice wA1 ws1.length wc1) (.bool off1) (.int .u64 falls1) (.int .i64 fuse1))
      have hq := HE.out.cell
      have q0 := hq 0
      have q1 := hq 1
      have q2 := hq 2
      have q3 := hq 3
      have q4 := hq 4
      have q5 := hq 5
      have q6 := hq 6
      simp only [List.getElem?_toArray, List.getElem?_cons_zero, List.getElem?_cons_succ] at q0 q1 q2 q3 q4 q5 q6
      clear hq
      refine bodyPost_ret (v := .tuple #[.bool true, .agg #[.int .i64 (n1 : Int), .int .i64 (c1' : Int), .slice kA1 k1.length kc1, .slice wA1 ws1.length wc1, .bool off1, .int .u64 falls1, .int .i64 fuse1]]) (by simp [results, Try.results11, go_sem, q0, q1, q2, q3, q4, q5, q6]) rfl ?_
      have hG := grown_put7 wr (w.heap.size + 1 + 1) (.int .i64 (n1 : Int)) (.int .i64 (c1' : Int)) (.slice kA1 k1.length kc1) (.slice wA1 ws1.length wc1) (.bool off1) (.int .u64 falls1) (.int .i64 fuse1)
      exact HD.out.fin (y := ⟨n1, c1', kA1, kc1, k1, wA1, wc1, ws1, off1, falls1, fuse1⟩) HO.out HP3.out hG ((Below.refl _ _).drew)
    case pos =>
      obtain ⟨g, cur, rfl, hbx, hcs, hng, hgw⟩ := HR.out (by omega)
      have hcj := hbx.cell j
      rw [Array.getElem?_eq_getElem (by omega)] at hcj
      have hfj := hbx.free9 j
      have HBX := hide_ hbx
      have HNG := hide_ hng
      clear hbx hng
      go_wp2
      have hg := grown_cell9 wr g j (.int .u8 99)
      have hb2 : BoxAt (wr.setCell ⟨g, j, none⟩ (.int .u8 99)) g (cur.setIfInBounds j (.int .u8 99)) 5 := HBX.out.set9 j _
      have hne : g ≠ g3 := fun e => two_kinds HBX.out HN.out (by decide) e
      refine ⟨⟨j + 1, hlt, rfl, hide_ (HD.out.grow HBX.out HNG.out hgw hg), hide_ (ok_grow HO.out HBX.out hg), hide_ (HN.out.more12 hg hne), hide_ (fun _ => ⟨g, _, rfl, hb2, by simpa using hcs, HNG.out, hgw⟩)⟩, by simp only [intOf]; omega⟩
set_option maxRecDepth 100000 in
set_option maxHeartbeats 1600000 in
theorem does2_any (h : DiskAt w L D) (x : RdM) (hx : RdM.ok w x) (hp : x.p = refOf D) (s : StM) (hk : s.ki = 2) : Calls Try.prog 11 #[.pointer (some ⟨L.b, 0, none⟩), x.v, .agg s.cs.toArray] w (DoesP L (syncD D) w) := by
  obtain ⟨W0, hW0⟩ : ∃ W, ((w.alloc (.cells x.cs 34)).alloc (.cells s.cs.toArray 40)).alloc (.cells #[.int .i64 0, .int .i64 0, .slice none 0 0, .slice none 0 0, .bool false, .int .u64 0, .int .i64 0] 34) = W := ⟨_, rfl⟩
  have HD0 := hide_ (DoS.start (s := s) h hx hW0)
  have HW0 := hide_ hW0
  have HDK := hide_ h.ok
  have HPX := hide_ hp
  clear h hx hp hW0
  obtain ⟨n, c, kA, kc, k, wA, wc, ws, off, falls, fuse⟩ := x
  obtain ⟨ki, i, q, ⟨bA, bc, bl⟩, t, y⟩ := s
  simp only at hk
  subst hk
  simp only [RdM.v, RdM.cs, StM.cs, Sl.v] at HW0 ⊢
  go_enter Try.func11, Try.ntmps11
  go_upto_region 1 with fail
  rw [HW0.out]
  have hco := HD0.out.o.cell
  simp only [StM.cs, Sl.v] at hco
  have HS := hide_ (Sync_any HD0.out.d)
  go_wp2_with fail
  refine HS.out.mono ?_
  rintro e w1 ⟨rfl, hdo⟩
  obtain ⟨L2, hd1⟩ := HD0.out.turn hdo
  have HD1 := hide_ hd1
  have HRS := hide_ (refSync12_any ⟨n, c, kA, kc, k, wA, wc, ws, off, falls, fuse⟩ w1 HD1.out.ok)
  have e1 := sync_ref HDK.out
  rw [HPX.out, e1.1, e1.2] at HRS
  simp only [RdM.v, RdM.cs] at HRS
  obtain ⟨er, her⟩ : ∃ z, serrD D = z := ⟨_, rfl⟩
  rw [her] at HRS ⊢
  clear hd1 hdo HS e1 her hco
  have hcm := HD1.out.m.cell
  have hco := HD1.out.o.cell
  simp only [RdM.cs] at hcm
  simp only [StM.cs, Sl.v] at hco
  go_wp2_with fail
  refine HRS.out.mono ?_
  rintro e w2 ⟨y1, rfl, hpy, hoy, hby⟩
  obtain ⟨n1, c1, kA1, kc1, k1, wA1, wc1, ws1, off1, falls1, fuse1⟩ := y1
  simp only [RdM.v, RdM.cs]
  obtain ⟨W3, hW3⟩ : ∃ W, w2.alloc (.cells #[.int .i64 (n1 : Int), .int .i64 (c1 : Int), .slice kA1 k1.length kc1, .slice wA1 ws1.length wc1, .bool off1, .int .u64 falls1, .int .i64 fuse1] 34) = W := ⟨_, rfl⟩
  have ha3 : Below w2.heap.size w2 W3 := hW3 ▸ (Below.refl _ _).alloc (Nat.le_refl _) _
  have HN3 := hide_ (show BoxAt W3 w2.heap.size #[.int .i64 (n1 : Int), .int .i64 (c1 : Int), .slice kA1 k1.length kc1, .slice wA1 ws1.length wc1, .bool off1, .int .u64 falls1, .int .i64 fuse1] 34 from hW3 ▸ BoxAt.new w2 _ _)
  have HD3 := hide_ ((HD1.out.below hby).below ha3)
  have HO3 := hide_ (hoy.below ha3)
  have HP3 := hide_ hpy
  have HW3 := hide_ hW3
  have hz3 : w.heap.size + 1 + 1 < w2.heap.size := Nat.lt_of_lt_of_le HD1.out.sz hby.size
  clear hcm hco hoy hpy hby ha3 hW3
  go_upto_region 18 with fail
  rw [HW3.out]
  have HZ := hide_ HD3.out.z
  have hcn := HN3.out.cell
  have hcz := HZ.out.cell
  have hfz := HZ.out.free9
  go_wp2
  go_region
  go_wp2
  clear hcn hcz hfz
  have HE := hide_ (HZ.out.put7 (.int .i64 (n1 : Int)) (.int .i64 (c1 : Int)) (.slice kA1 k1.length kc1) (.slice wA1 ws1.length wc1) (.bool off1) (.int .u64 falls1) (.int .i64 fuse1))
  have hq := HE.out.cell
  have q0 := hq 0
  have q1 := hq 1
  have q2 := hq 2
  have q3 := hq 3
  have q4 := hq 4
  have q5 := hq 5
  have q6 := hq 6
  simp only [List.getElem?_toArray, List.getElem?_cons_zero, List.getElem?_cons_succ] at q0 q1 q2 q3 q4 q5 q6
  clear hq
  refine bodyPost_ret (v := .tuple #[.bool true, .agg #[.int .i64 (n1 : Int), .int .i64 (c1 : Int), .slice kA1 k1.length kc1, .slice wA1 ws1.length wc1, .bool off1, .int .u64 falls1, .int .i64 fuse1]]) (by simp [results, Try.results11, go_sem, q0, q1, q2, q3, q4, q5, q6]) rfl ?_
  have hG := grown_put7 W3 (w.heap.size + 1 + 1) (.int .i64 (n1 : Int)) (.int .i64 (c1 : Int)) (.slice kA1 k1.length kc1) (.slice wA1 ws1.length wc1) (.bool off1) (.int .u64 falls1) (.int .i64 fuse1)
  exact HD3.out.fin (y := ⟨n1, c1, kA1, kc1, k1, wA1, wc1, ws1, off1, falls1, fuse1⟩) HO3.out HP3.out hG ((Below.refl _ _).drew)
set_option maxRecDepth 100000 in
set_option maxHeartbeats 1600000 in
theorem does3_any (h : DiskAt w L D) (x : RdM) (hx : RdM.ok w x) (hp : x.p = refOf D) (s : StM) (hk : s.ki = 3) (hi : s.i ≤ 9223372036854775807) : Calls Try.prog 11 #[.pointer (some ⟨L.b, 0, none⟩), x.v, .agg s.cs.toArray] w (DoesP L (fuseD D s.i) w) := by
  obtain ⟨W0, hW0⟩ : ∃ W, ((w.alloc (.cells x.cs 34)).alloc (.cells s.cs.toArray 40)).alloc (.cells #[.int .i64 0, .int .i64 0, .slice none 0 0, .slice none 0 0, .bool false, .int .u64 0, .int .i64 0] 34) = W := ⟨_, rfl⟩
  have HD0 := hide_ (DoS.start (s := s) h hx hW0)
  have HW0 := hide_ hW0
  have HDK := hide_ h.ok
  have HPX := hide_ hp
  clear h hx hp hW0
  obtain ⟨n, c, kA, kc, k, wA, wc, ws, off, falls, fuse⟩ := x
  obtain ⟨ki, i, q, ⟨bA, bc, bl⟩, t, y⟩ := s
  simp only at hk
  subst hk
  simp only [RdM.v, RdM.cs, StM.cs, Sl.v] at HW0 ⊢
  go_enter Try.func11, Try.ntmps11
  go_upto_region 1 with fail
  rw [HW0.out]
  have hco := HD0.out.o.cell
  simp only [StM.cs, Sl.v] at hco
  simp only at hi
  have HS := hide_ (Fuse_any HD0.out.d i hi)
  obtain ⟨fu, hfu⟩ : ∃ z, (if i < 0 then 0 else i) = z := ⟨_, rfl⟩
  have hfm : max i 0 = fu := by
    rw [← hfu]
    split <;> omega
  have HFU := hide_ hfu
  have HP3 := hide_ (show RdM.p ⟨n, c, kA, kc, k, wA, wc, ws, off, falls, fu⟩ = refOf (fuseD D i) by
    rw [← fuse_ref, ← HPX.out, hfm]
    rfl)
  have hf2 : fu ≤ 9223372036854775807 ∧ -1 ≤ fu := by omega
  clear hfm hfu
  go_wp2_with fail
  refine HS.out.mono ?_
  rintro e w1 ⟨rfl, hdo⟩
  obtain ⟨L2, hd1⟩ := HD0.out.turn hdo
  have HD1 := hide_ hd1
  clear hd1 hdo HS hco
  have hcm := HD1.out.m.cell
  have hfm := HD1.out.m.free9
  have hco := HD1.out.o.cell
  simp only [RdM.cs] at hcm
  simp only [StM.cs, Sl.v] at hco
  go_upto_region 22 with fail
  rw [HFU.out]
  obtain ⟨W2, hW2⟩ : ∃ W, w1.setCell ⟨w.heap.size, 6, none⟩ (.int .i64 fu) = W := ⟨_, rfl⟩
  rw [hW2]
  have hn2 : BoxAt W2 w.heap.size #[.int .i64 (n : Int), .int .i64 (c : Int), .slice kA k.length kc, .slice wA ws.length wc, .bool off, .int .u64 falls, .int .i64 fu] 34 := hW2 ▸ HD1.out.m.set9 6 _
  have hg2 : w1.grownBy W2 (some w.heap.size) := hW2 ▸ grown_cell9 w1 w.heap.size 6 _
  have hok2 : RdM.ok w1 ⟨n, c, kA, kc, k, wA, wc, ws, off, falls, fu⟩ := ⟨HD1.out.ok.k, HD1.out.ok.ws, hf2, HD1.out.ok.sz, HD1.out.ok.kl, HD1.out.ok.wl⟩
  have HD3 := hide_ (HD1.out.setm hok2 hg2 hn2)
  have HZ := hide_ HD3.out.z
  clear hcm hfm hco hW2 hn2 hg2 hok2 hf2
  have hcn := HD3.out.m.cell
  simp only [RdM.cs] at hcn
  have hcz := HZ.out.cell
  have hfz := HZ.out.free9
  go_region
  go_wp2
  clear hcn hcz hfz
  have HE := hide_ (HZ.out.put7 (.int .i64 (n : Int)) (.int .i64 (c : Int)) (.slice kA k.length kc) (.slice wA ws.length wc) (.bool off) (.int .u64 falls) (.int .i64 fu))
  have hq := HE.out.cell
  have q0 := hq 0
  have q1 := hq 1
  have q2 := hq 2
  have q3 := hq 3
  have q4 := hq 4
  have q5 := hq 5
  have q6 := hq 6
  simp only [List.getElem?_toArray, List.getElem?_cons_zero, List.getElem?_cons_succ] at q0 q1 q2 q3 q4 q5 q6
  clear hq
  refine bodyPost_ret (v := .tuple #[.bool true, .agg #[.int .i64 (n : Int), .int .i64 (c : Int), .slice kA k.length kc, .slice wA ws.length wc, .bool off, .int .u64 falls, .int .i64 fu]]) (by simp [results, Try.results11, go_sem, q0, q1, q2, q3, q4, q5, q6]) rfl ?_
  have hG := grown_put7 W2 (w.heap.size + 1 + 1) (.int .i64 (n : Int)) (.int .i64 (c : Int)) (.slice kA k.length kc) (.slice wA ws.length wc) (.bool off) (.int .u64 falls) (.int .i64 fu)
  exact HD3.out.fin (y := ⟨n, c, kA, kc, k, wA, wc, ws, off, falls, fu⟩) HD3.out.ok HP3.out hG ((Below.refl _ _).drew)
set_option maxRecDepth 100000 in
set_option maxHeartbeats 1600000 in
theorem does4_any (h : DiskAt w L D) (x : RdM) (hx : RdM.ok w x) (hp : x.p = refOf D) (s : StM) (hk : s.ki = 4) : Calls Try.prog 11 #[.pointer (some ⟨L.b, 0, none⟩), x.v, .agg s.cs.toArray] w (DoesP L (fallD D) w) := by
  obtain ⟨W0, hW0⟩ : ∃ W, ((w.alloc (.cells x.cs 34)).alloc (.cells s.cs.toArray 40)).alloc (.cells #[.int .i64 0, .int .i64 0, .slice none 0 0, .slice none 0 0, .bool false, .int .u64 0, .int .i64 0] 34) = W := ⟨_, rfl⟩
  have HD0 := hide_ (DoS.start (s := s) h hx hW0)
  have HW0 := hide_ hW0
  have HDK := hide_ h.ok
  have HPX := hide_ hp
  clear h hx hp hW0
  obtain ⟨n, c, kA, kc, k, wA, wc, ws, off, falls, fuse⟩ := x
  obtain ⟨ki, i, q, ⟨bA, bc, bl⟩, t, y⟩ := s
  simp only at hk
  subst hk
  simp only [RdM.v, RdM.cs, StM.cs, Sl.v] at HW0 ⊢
  go_enter Try.func11, Try.ntmps11
  go_upto_region 1 with fail
  rw [HW0.out]
  have hco := HD0.out.o.cell
  simp only [StM.cs, Sl.v] at hco
  have HS := hide_ (Fall_any HD0.out.d)
  go_wp2_with fail
  refine HS.out.mono ?_
  rintro e w1 ⟨rfl, hdo⟩
  obtain ⟨L2, hd1⟩ := HD0.out.turn hdo
  have HD1 := hide_ hd1
  clear hd1 hdo HS hco
  have hcm := HD1.out.m.cell
  have hfm := HD1.out.m.free9
  have hco := HD1.out.o.cell
  simp only [RdM.cs] at hcm
  simp only [StM.cs, Sl.v] at hco
  cases off with
  | true =>
    have HP3 := hide_ (show RdM.p ⟨n, c, kA, kc, k, wA, wc, ws, true, falls, fuse⟩ = refOf (fallD D) by
      rw [← falls_ref, ← HPX.out]
      rfl)
    go_upto_region 28 with fail
    obtain ⟨W2, hW2⟩ : ∃ W, w1.setCell ⟨w.heap.size, 4, none⟩ (.bool true) = W := ⟨_, rfl⟩
    rw [hW2]
    have hn2 : BoxAt W2 w.heap.size #[.int .i64 (n : Int), .int .i64 (c : Int), .slice kA k.length kc, .slice wA ws.length wc, .bool true, .int .u64 falls, .int .i64 fuse] 34 := hW2 ▸ HD1.out.m.set9 4 _
    have hg2 : w1.grownBy W2 (some w.heap.size) := hW2 ▸ grown_cell9 w1 w.heap.size 4 _
    have hok2 : RdM.ok w1 ⟨n, c, kA, kc, k, wA, wc, ws, true, falls, fuse⟩ := ⟨HD1.out.ok.k, HD1.out.ok.ws, HD1.out.ok.f, HD1.out.ok.sz, HD1.out.ok.kl, HD1.out.ok.wl⟩
    have HD3 := hide_ (HD1.out.setm hok2 hg2 hn2)
    have HZ := hide_ HD3.out.z
    clear hcm hfm hco hW2 hn2 hg2 hok2
    have hcn := HD3.out.m.cell
    simp only [RdM.cs] at hcn
    have hcz := HZ.out.cell
    have hfz := HZ.out.free9
    go_region
    go_wp2
    clear hcn hcz hfz
    have HE := hide_ (HZ.out.put7 (.int .i64 (n : Int)) (.int .i64 (c : Int)) (.slice kA k.length kc) (.slice wA ws.length wc) (.bool true) (.int .u64 falls) (.int .i64 fuse))
    have hq := HE.out.cell
    have q0 := hq 0
    have q1 := hq 1
    have q2 := hq 2
    have q3 := hq 3
    have q4 := hq 4
    have q5 := hq 5
    have q6 := hq 6
    simp only [List.getElem?_toArray, List.getElem?_cons_zero, List.getElem?_cons_succ] at q0 q1 q2 q3 q4 q5 q6
    clear hq
    refine bodyPost_ret (v := .tuple #[.bool true, .agg #[.int .i64 (n : Int), .int .i64 (c : Int), .slice kA k.length kc, .slice wA ws.length wc, .bool true, .int .u64 falls, .int .i64 fuse]]) (by simp [results, Try.results11, go_sem, q0, q1, q2, q3, q4, q5, q6]) rfl ?_
    have hG := grown_put7 W2 (w.heap.size + 1 + 1) (.int .i64 (n : Int)) (.int .i64 (c : Int)) (.slice kA k.length kc) (.slice wA ws.length wc) (.bool true) (.int .u64 falls) (.int .i64 fuse)
    exact HD3.out.fin (y := ⟨n, c, kA, kc, k, wA, wc, ws, true, falls, fuse⟩) HD3.out.ok HP3.out hG ((Below.refl _ _).drew)
  | false =>
    have HP3 := hide_ (show RdM.p ⟨n, c, kA, kc, k, wA, wc, ws, true, (IntKind.u64.wrap (falls + 1)), fuse⟩ = refOf (fallD D) by
      rw [← falls_ref, ← HPX.out]
      rfl)
    go_upto_region 28 with fail
    obtain ⟨W2, hW2⟩ : ∃ W, (w1.setCell ⟨w.heap.size, 5, none⟩ (.int .u64 (IntKind.u64.wrap (falls + 1)))).setCell ⟨w.heap.size, 4, none⟩ (.bool true) = W := ⟨_, rfl⟩
    rw [hW2]
    have hn2 : BoxAt W2 w.heap.size #[.int .i64 (n : Int), .int .i64 (c : Int), .slice kA k.length kc, .slice wA ws.length wc, .bool true, .int .u64 (IntKind.u64.wrap (falls + 1)), .int .i64 fuse] 34 := hW2 ▸ (HD1.out.m.set9 5 _).set9 4 _
    have hg2 : w1.grownBy W2 (some w.heap.size) := hW2 ▸ grown_set (grown_cell9 w1 w.heap.size 5 _) 4 _
    have hok2 : RdM.ok w1 ⟨n, c, kA, kc, k, wA, wc, ws, true, (IntKind.u64.wrap (falls + 1)), fuse⟩ := ⟨HD1.out.ok.k, HD1.out.ok.ws, HD1.out.ok.f, HD1.out.ok.sz, HD1.out.ok.kl, HD1.out.ok.wl⟩
    have HD3 := hide_ (HD1.out.setm hok2 hg2 hn2)
    have HZ := hide_ HD3.out.z
    clear hcm hfm hco hW2 hn2 hg2 hok2
    have hcn := HD3.out.m.cell
    simp only [RdM.cs] at hcn
    have hcz := HZ.out.cell
    have hfz := HZ.out.free9
    go_region
    go_wp2
    clear hcn hcz hfz
    have HE := hide_ (HZ.out.put7 (.int .i64 (n : Int)) (.int .i64 (c : Int)) (.slice kA k.length kc) (.slice wA ws.length wc) (.bool true) (.int .u64 (IntKind.u64.wrap (falls + 1))) (.int .i64 fuse))
    have hq := HE.out.cell
    have q0 := hq 0
    have q1 := hq 1
    have q2 := hq 2
    have q3 := hq 3
    have q4 := hq 4
    have q5 := hq 5
    have q6 := hq 6
    simp only [List.getElem?_toArray, List.getElem?_cons_zero, List.getElem?_cons_succ] at q0 q1 q2 q3 q4 q5 q6
    clear hq
    refine bodyPost_ret (v := .tuple #[.bool true, .agg #[.int .i64 (n : Int), .int .i64 (c : Int), .slice kA k.length kc, .slice wA ws.length wc, .bool true, .int .u64 (IntKind.u64.wrap (falls + 1)), .int .i64 fuse]]) (by simp [results, Try.results11, go_sem, q0, q1, q2, q3, q4, q5, q6]) rfl ?_
    have hG := grown_put7 W2 (w.heap.size + 1 + 1) (.int .i64 (n : Int)) (.int .i64 (c : Int)) (.slice kA k.length kc) (.slice wA ws.length wc) (.bool true) (.int .u64 (IntKind.u64.wrap (falls + 1))) (.int .i64 fuse)
    exact HD3.out.fin (y := ⟨n, c, kA, kc, k, wA, wc, ws, true, (IntKind.u64.wrap (falls + 1)), fuse⟩) HD3.out.ok HP3.out hG ((Below.refl _ _).drew)
set_option maxRecDepth 100000 in
set_option maxHeartbeats 1600000 in
theorem does5_any (h : DiskAt w L D) (x : RdM) (hx : RdM.ok w x) (hp : x.p = refOf D) (s : StM) (hk : s.ki = 5) : Calls Try.prog 11 #[.pointer (some ⟨L.b, 0, none⟩), x.v, .agg s.cs.toArray] w (DoesP L (backD D s.i s.t) w) := by
  obtain ⟨W0, hW0⟩ : ∃ W, ((w.alloc (.cells x.cs 34)).alloc (.cells s.cs.toArray 40)).alloc (.cells #[.int .i64 0, .int .i64 0, .slice none 0 0, .slice none 0 0, .bool false, .int .u64 0, .int .i64 0] 34) = W := ⟨_, rfl⟩
  have HD0 := hide_ (DoS.start (s := s) h hx hW0)
  have HW0 := hide_ hW0
  have HDK := hide_ h.ok
  have HPX := hide_ hp
  clear h hx hp hW0
  obtain ⟨n, c, kA, kc, k, wA, wc, ws, off, falls, fuse⟩ := x
  obtain ⟨ki, i, q, ⟨bA, bc, bl⟩, t, y⟩ := s
  simp only at hk
  subst hk
  simp only [RdM.v, RdM.cs, StM.cs, Sl.v] at HW0 ⊢
  go_enter Try.func11, Try.ntmps11
  go_upto_region 1 with fail
  rw [HW0.out]
  have hco := HD0.out.o.cell
  simp only [StM.cs, Sl.v] at hco
  have HS := hide_ (Back_any HD0.out.d i t)
  go_wp2_with fail
  refine HS.out.mono ?_
  rintro e w1 ⟨rfl, hdo⟩
  obtain ⟨L2, hd1⟩ := HD0.out.turn hdo
  have HD1 := hide_ hd1
  have HRS := hide_ (refBack12_any ⟨n, c, kA, kc, k, wA, wc, ws, off, falls, fuse⟩ i t w1 HD1.out.ok)
  rw [HPX.out, back_ref HDK.out] at HRS
  simp only [RdM.v, RdM.cs] at HRS
  clear hd1 hdo HS hco
  have hcm := HD1.out.m.cell
  have hco := HD1.out.o.cell
  simp only [RdM.cs] at hcm
  simp only [StM.cs, Sl.v] at hco
  go_wp2_with fail
  refine HRS.out.mono ?_
  rintro e w2 ⟨y1, rfl, hpy, hoy, hby⟩
  obtain ⟨n1, c1, kA1, kc1, k1, wA1, wc1, ws1, off1, falls1, fuse1⟩ := y1
  simp only [RdM.v, RdM.cs]
  have HD3 := hide_ (HD1.out.below hby)
  have HZ := hide_ HD3.out.z
  have HO3 := hide_ hoy
  have HP3 := hide_ hpy
  clear hcm hco hby hoy hpy
  have hcz := HZ.out.cell
  have hfz := HZ.out.free9
  go_wp2
  clear hcz hfz
  have HE := hide_ (HZ.out.put7 (.int .i64 (n1 : Int)) (.int .i64 (c1 : Int)) (.slice kA1 k1.length kc1) (.slice wA1 ws1.length wc1) (.bool off1) (.int .u64 falls1) (.int .i64 fuse1))
  have hq := HE.out.cell
  have q0 := hq 0
  have q1 := hq 1
  have q2 := hq 2
  have q3 := hq 3
  have q4 := hq 4
  have q5 := hq 5
  have q6 := hq 6
  simp only [List.getElem?_toArray, List.getElem?_cons_zero, List.getElem?_cons_succ] at q0 q1 q2 q3 q4 q5 q6
  clear hq
  refine bodyPost_ret (v := .tuple #[.bool true, .agg #[.int .i64 (n1 : Int), .int .i64 (c1 : Int), .slice kA1 k1.length kc1, .slice wA1 ws1.length wc1, .bool off1, .int .u64 falls1, .int .i64 fuse1]]) (by simp [results, Try.results11, go_sem, q0, q1, q2, q3, q4, q5, q6]) rfl ?_
  have hG := grown_put7 w2 (w.heap.size + 1 + 1) (.int .i64 (n1 : Int)) (.int .i64 (c1 : Int)) (.slice kA1 k1.length kc1) (.slice wA1 ws1.length wc1) (.bool off1) (.int .u64 falls1) (.int .i64 fuse1)
  exact HD3.out.fin (y := ⟨n1, c1, kA1, kc1, k1, wA1, wc1, ws1, off1, falls1, fuse1⟩) HO3.out HP3.out hG (Below.refl _ _)
set_option maxRecDepth 100000 in
set_option maxHeartbeats 1600000 in
theorem does6_any (h : DiskAt w L D) (x : RdM) (hx : RdM.ok w x) (hp : x.p = refOf D) (s : StM) (hk : s.ki = 6) : Calls Try.prog 11 #[.pointer (some ⟨L.b, 0, none⟩), x.v, .agg s.cs.toArray] w (DoesP L (spoilD D s.i s.q s.y) w) := by
  obtain ⟨W0, hW0⟩ : ∃ W, ((w.alloc (.cells x.cs 34)).alloc (.cells s.cs.toArray 40)).alloc (.cells #[.int .i64 0, .int .i64 0, .slice none 0 0, .slice none 0 0, .bool false, .int .u64 0, .int .i64 0] 34) = W := ⟨_, rfl⟩
  have HD0 := hide_ (DoS.start (s := s) h hx hW0)
  have HW0 := hide_ hW0
  have HDK := hide_ h.ok
  have HPX := hide_ hp
  clear h hx hp hW0
  obtain ⟨n, c, kA, kc, k, wA, wc, ws, off, falls, fuse⟩ := x
  obtain ⟨ki, i, q, ⟨bA, bc, bl⟩, t, y⟩ := s
  simp only at hk
  subst hk
  simp only [RdM.v, RdM.cs, StM.cs, Sl.v] at HW0 ⊢
  go_enter Try.func11, Try.ntmps11
  go_upto_region 1 with fail
  rw [HW0.out]
  have hco := HD0.out.o.cell
  simp only [StM.cs, Sl.v] at hco
  have HS := hide_ (Spoil_any HD0.out.d i q y)
  go_wp2_with fail
  refine HS.out.mono ?_
  rintro e w1 ⟨rfl, hdo⟩
  obtain ⟨L2, hd1⟩ := HD0.out.turn hdo
  have HD1 := hide_ hd1
  have HRS := hide_ (refSpoil12_any ⟨n, c, kA, kc, k, wA, wc, ws, off, falls, fuse⟩ i q y w1 HD1.out.ok)
  rw [HPX.out, spoil_ref, serr_ref] at HRS
  simp only [RdM.v, RdM.cs] at HRS
  obtain ⟨er, her⟩ : ∃ z, perrD D i q = z := ⟨_, rfl⟩
  rw [her] at HRS ⊢
  clear hd1 hdo HS her hco
  have hcm := HD1.out.m.cell
  have hco := HD1.out.o.cell
  simp only [RdM.cs] at hcm
  simp only [StM.cs, Sl.v] at hco
  go_wp2_with fail
  refine HRS.out.mono ?_
  rintro e w2 ⟨y1, rfl, hpy, hoy, hby⟩
  obtain ⟨n1, c1, kA1, kc1, k1, wA1, wc1, ws1, off1, falls1, fuse1⟩ := y1
  simp only [RdM.v, RdM.cs]
  obtain ⟨W3, hW3⟩ : ∃ W, w2.alloc (.cells #[.int .i64 (n1 : Int), .int .i64 (c1 : Int), .slice kA1 k1.length kc1, .slice wA1 ws1.length wc1, .bool off1, .int .u64 falls1, .int .i64 fuse1] 34) = W := ⟨_, rfl⟩
  have ha3 : Below w2.heap.size w2 W3 := hW3 ▸ (Below.refl _ _).alloc (Nat.le_refl _) _
  have HN3 := hide_ (show BoxAt W3 w2.heap.size #[.int .i64 (n1 : Int), .int .i64 (c1 : Int), .slice kA1 k1.length kc1, .slice wA1 ws1.length wc1, .bool off1, .int .u64 falls1, .int .i64 fuse1] 34 from hW3 ▸ BoxAt.new w2 _ _)
  have HD3 := hide_ ((HD1.out.below hby).below ha3)
  have HO3 := hide_ (hoy.below ha3)
  have HP3 := hide_ hpy
  have HW3 := hide_ hW3
  have hz3 : w.heap.size + 1 + 1 < w2.heap.size := Nat.lt_of_lt_of_le HD1.out.sz hby.size
  clear hcm hco hoy hpy hby ha3 hW3
  go_upto_region 35 with fail
  rw [HW3.out]
  have HZ := hide_ HD3.out.z
  have hcn := HN3.out.cell
  have hcz := HZ.out.cell
  have hfz := HZ.out.free9
  go_wp2
  go_region
  go_wp2
  clear hcn hcz hfz
  have HE := hide_ (HZ.out.put7 (.int .i64 (n1 : Int)) (.int .i64 (c1 : Int)) (.slice kA1 k1.length kc1) (.slice wA1 ws1.length wc1) (.bool off1) (.int .u64 falls1) (.int .i64 fuse1))
  have hq := HE.out.cell
  have q0 := hq 0
  have q1 := hq 1
  have q2 := hq 2
  have q3 := hq 3
  have q4 := hq 4
  have q5 := hq 5
  have q6 := hq 6
  simp only [List.getElem?_toArray, List.getElem?_cons_zero, List.getElem?_cons_succ] at q0 q1 q2 q3 q4 q5 q6
  clear hq
  refine bodyPost_ret (v := .tuple #[.bool true, .agg #[.int .i64 (n1 : Int), .int .i64 (c1 : Int), .slice kA1 k1.length kc1, .slice wA1 ws1.length wc1, .bool off1, .int .u64 falls1, .int .i64 fuse1]]) (by simp [results, Try.results11, go_sem, q0, q1, q2, q3, q4, q5, q6]) rfl ?_
  have hG := grown_put7 W3 (w.heap.size + 1 + 1) (.int .i64 (n1 : Int)) (.int .i64 (c1 : Int)) (.slice kA1 k1.length kc1) (.slice wA1 ws1.length wc1) (.bool off1) (.int .u64 falls1) (.int .i64 fuse1)
  exact HD3.out.fin (y := ⟨n1, c1, kA1, kc1, k1, wA1, wc1, ws1, off1, falls1, fuse1⟩) HO3.out HP3.out hG ((Below.refl _ _).drew)
set_option maxRecDepth 100000 in
set_option maxHeartbeats 1600000 in
theorem does7_any (h : DiskAt w L D) (x : RdM) (hx : RdM.ok w x) (hp : x.p = refOf D) (s : StM) (hk : s.ki < 0 ∨ 6 < s.ki) : Calls Try.prog 11 #[.pointer (some ⟨L.b, 0, none⟩), x.v, .agg s.cs.toArray] w (DoesP L (D) w) := by
  obtain ⟨W0, hW0⟩ : ∃ W, ((w.alloc (.cells x.cs 34)).alloc (.cells s.cs.toArray 40)).alloc (.cells #[.int .i64 0, .int .i64 0, .slice none 0 0, .slice none 0 0, .bool false, .int .u64 0, .int .i64 0] 34) = W := ⟨_, rfl⟩
  have HD0 := hide_ (DoS.start (s := s) h hx hW0)
  have HW0 := hide_ hW0
  have HDK := hide_ h.ok
  have HPX := hide_ hp
  clear h hx hp hW0
  obtain ⟨n, c, kA, kc, k, wA, wc, ws, off, falls, fuse⟩ := x
  obtain ⟨ki, i, q, ⟨bA, bc, bl⟩, t, y⟩ := s
  simp only at hk
  have h0 : (ki == 0) = false := beq_eq_false_iff_ne.2 (by omega)
  have h1 : (ki == 1) = false := beq_eq_false_iff_ne.2 (by omega)
  have h2 : (ki == 2) = false := beq_eq_false_iff_ne.2 (by omega)
  have h3 : (ki == 3) = false := beq_eq_false_iff_ne.2 (by omega)
  have h4 : (ki == 4) = false := beq_eq_false_iff_ne.2 (by omega)
  have h5 : (ki == 5) = false := beq_eq_false_iff_ne.2 (by omega)
  have h6 : (ki == 6) = false := beq_eq_false_iff_ne.2 (by omega)
  clear hk
  simp only [RdM.v, RdM.cs, StM.cs, Sl.v] at HW0 ⊢
  go_enter Try.func11, Try.ntmps11
  go_upto_region 1 with fail
  rw [HW0.out]
  have hco := HD0.out.o.cell
  simp only [StM.cs, Sl.v] at hco
  have hcn := HD0.out.m.cell
  simp only [RdM.cs] at hcn
  have HZ := hide_ HD0.out.z
  have hcz := HZ.out.cell
  have hfz := HZ.out.free9
  go_upto_region 36 with fail
  clear h0 h1 h2 h3 h4 h5 h6
  go_region
  go_wp2
  clear hcn hcz hfz
  have HE := hide_ (HZ.out.put7 (.int .i64 (n : Int)) (.int .i64 (c : Int)) (.slice kA k.length kc) (.slice wA ws.length wc) (.bool off) (.int .u64 falls) (.int .i64 fuse))
  have hq := HE.out.cell
  have q0 := hq 0
  have q1 := hq 1
  have q2 := hq 2
  have q3 := hq 3
  have q4 := hq 4
  have q5 := hq 5
  have q6 := hq 6
  simp only [List.getElem?_toArray, List.getElem?_cons_zero, List.getElem?_cons_succ] at q0 q1 q2 q3 q4 q5 q6
  clear hq
  refine bodyPost_ret (v := .tuple #[.bool true, .agg #[.int .i64 (n : Int), .int .i64 (c : Int), .slice kA k.length kc, .slice wA ws.length wc, .bool off, .int .u64 falls, .int .i64 fuse]]) (by simp [results, Try.results11, go_sem, q0, q1, q2, q3, q4, q5, q6]) rfl ?_
  have hG := grown_put7 W0 (w.heap.size + 1 + 1) (.int .i64 (n : Int)) (.int .i64 (c : Int)) (.slice kA k.length kc) (.slice wA ws.length wc) (.bool off) (.int .u64 falls) (.int .i64 fuse)
  exact HD0.out.fin (y := ⟨n, c, kA, kc, k, wA, wc, ws, off, falls, fuse⟩) HD0.out.ok HPX.out hG ((Below.refl _ _).drew)
end
end Go.Proofs.Ytcpoppfifadbiaa
