/-
  Contract of the document's Write.
-/
import Derived.Test.YtcpoppfifadbiaaRd12d
namespace Go.Proofs.Ytcpoppfifadbiaa
open Go.RowKit

theorem rerrP_off {p : RP} (i : Int) (h : p.off = true) : rerrP p i = 8 := by simp [rerrP, h]
theorem rerrP_out {p : RP} {i : Int} (h : p.off = false) (h1 : i < 0 ∨ (p.c : Int) ≤ i) : rerrP p i = 6 := by
  rw [rerrP, if_neg (by simp [h]), if_neg (by omega)]
theorem rerrP_in {p : RP} {i : Int} (h : p.off = false) (h1 : 0 ≤ i ∧ i < p.c) : rerrP p i = 0 := by
  rw [rerrP, if_neg (by simp [h]), if_pos h1]
theorem writeP_no {p : RP} {i : Int} (s : List UInt8) {e : Int} (h : rerrP p i = e) (h0 : e ≠ 0) : writeP p i s = p ∧ werrP p i s.length = e := by
  rw [writeP, werrP, h, if_neg h0, if_neg h0]
  exact ⟨rfl, rfl⟩
theorem writeP_len {p : RP} {i : Int} {s : List UInt8} (h : rerrP p i = 0) (h0 : s.length ≠ p.n) : writeP p i s = p ∧ werrP p i s.length = 3 := by
  rw [writeP, werrP, if_pos h, if_pos h, if_neg h0, if_neg h0]
  exact ⟨rfl, rfl⟩
/-- the fuse burns alike whatever waits -/
theorem burnsP_ws (p : RP) (l : List (Nat × List UInt8)) : (burnsP { p with ws := l }).1 = (burnsP p).1 := by
  unfold burnsP
  split <;> (try split) <;> rfl
theorem writeP_in {p : RP} {i : Int} {s : List UInt8} (h : rerrP p i = 0) (h0 : s.length = p.n) : writeP p i s = (burnsP { p with ws := p.ws ++ [(i.toNat, s)] }).2 ∧ werrP p i s.length = if (burnsP { p with ws := p.ws ++ [(i.toNat, s)] }).1 = true then 8 else 0 := by
  rw [writeP, werrP, if_pos h, if_pos h, if_pos h0, if_pos h0, ← burnsP_ws p (p.ws ++ [(i.toNat, s)])]
  exact ⟨rfl, rfl⟩
theorem wC_one (l : List (Nat × List UInt8)) : ∀ u ∈ wC l, u.oneCell' = true := fun u hu => by
  simp only [wC, List.mem_flatMap] at hu
  obtain ⟨q, _, hu⟩ := hu
  simp at hu
  rcases hu with rfl | rfl <;> rfl
theorem wC_snoc (l : List (Nat × List UInt8)) (q : Nat × List UInt8) : wC l ++ [.int .i64 (q.1 : Int), .string (strOf q.2)] = wC (l ++ [q]) := by simp [wC]

set_option maxRecDepth 100000 in
set_option maxHeartbeats 1600000 in
theorem refWrite12_any (x : RdM) (i : Int) (s : List UInt8) (w : World) (h : RdM.ok w x) (hn : x.ws.length + 1 ≤ 100000) : Calls Try.prog 30 #[x.v, .int .i64 i, .string (strOf s)] w (RefE12 w (werrP x.p i s.length) (writeP x.p i s)) := by
  have H := hide_ h
  have HBU := hide_ (fun (y : RdM) (u : World) (hu : RdM.ok u y) => refBurns12_any y u hu)
  have hsl : (strOf s).size = s.length := by show (strOf s).data.size = s.length; simp [strOf]
  obtain ⟨n, c, kA, kc, k, wA, wc, ws, off, falls, fuse⟩ := x
  simp only [RdM.v, RdM.cs] at hn ⊢
  obtain ⟨p, hp⟩ : ∃ p, RdM.p ⟨n, c, kA, kc, k, wA, wc, ws, off, falls, fuse⟩ = p := ⟨_, rfl⟩
  rw [hp]
  obtain ⟨W0, hW0, hx0, hz0, hs0, hb0⟩ := boxes12 w #[.int .i64 (n : Int), .int .i64 (c : Int), .slice kA k.length kc, .slice wA ws.length wc, .bool off, .int .u64 falls, .int .i64 fuse]
  have HP := hide_ hp
  have HW0 := hide_ hW0
  have HX0 := hide_ hx0
  have HZ0 := hide_ hz0
  have HS0 := hide_ hs0
  have HB0 := hide_ hb0
  clear hW0 hx0 hz0 hs0 hb0 h hp
  have hoff : (off = true) ∨ off = false := by cases off <;> simp
  rcases hoff with rfl | rfl
  · have HY := hide_ (writeP_no (p := p) (i := i) s (rerrP_off i (by rw [← HP.out]; rfl)) (by decide))
    go_enter Try.func30, Try.ntmps30
    go_upto_region 1 with fail
    rw [HW0.out]
    have hcx := HX0.out.cell
    have hcz := HZ0.out.cell
    have hfz := HZ0.out.free9
    go_wp2
    go_region
    go_wp2
    clear hcx hcz hfz
    have HE := hide_ (HZ0.out.put7 (.int .i64 (n : Int)) (.int .i64 (c : Int)) (.slice kA k.length kc) (.slice wA ws.length wc) (.bool true) (.int .u64 falls) (.int .i64 fuse))
    have hq := HE.out.cell
    have q0 := hq 0
    have q1 := hq 1
    have q2 := hq 2
    have q3 := hq 3
    have q4 := hq 4
    have q5 := hq 5
    have q6 := hq 6
    simp only [List.getElem?_toArray, List.getElem?_cons_zero, List.getElem?_cons_succ] at q0 q1 q2 q3 q4 q5 q6
    clear hq
    refine bodyPost_ret (v := .tuple #[.int .i64 8, .agg #[.int .i64 (n : Int), .int .i64 (c : Int), .slice kA k.length kc, .slice wA ws.length wc, .bool true, .int .u64 falls, .int .i64 fuse]]) (by simp [results, Try.results30, go_sem, q0, q1, q2, q3, q4, q5, q6]) rfl ?_
    have hs0 := HS0.out
    have hG := grown_put7 W0 (w.heap.size + 1) (.int .i64 (n : Int)) (.int .i64 (c : Int)) (.slice kA k.length kc) (.slice wA ws.length wc) (.bool true) (.int .u64 falls) (.int .i64 fuse)
    have hW := (HB0.out.grown hG (by omega) (fun k hk => by injection hk with hk; omega)).drew
    rw [HY.out.1, HY.out.2]
    exact ⟨⟨n, c, kA, kc, k, wA, wc, ws, true, falls, fuse⟩, rfl, HP.out, ((H.out.below HB0.out).grown HZ0.out hG).below ((Below.refl _ _).drew), hW⟩
  by_cases hi0 : i < 0
  · have HY := hide_ (writeP_no (p := p) (i := i) s (rerrP_out (by rw [← HP.out]; rfl) (.inl hi0)) (by decide))
    go_enter Try.func30, Try.ntmps30
    go_upto_region 1 with fail
    rw [HW0.out]
    have hcx := HX0.out.cell
    have hcz := HZ0.out.cell
    have hfz := HZ0.out.free9
    go_wp2
    go_region
    go_wp2
    clear hcx hcz hfz
    have HE := hide_ (HZ0.out.put7 (.int .i64 (n : Int)) (.int .i64 (c : Int)) (.slice kA k.length kc) (.slice wA ws.length wc) (.bool false) (.int .u64 falls) (.int .i64 fuse))
    have hq := HE.out.cell
    have q0 := hq 0
    have q1 := hq 1
    have q2 := hq 2
    have q3 := hq 3
    have q4 := hq 4
    have q5 := hq 5
    have q6 := hq 6
    simp only [List.getElem?_toArray, List.getElem?_cons_zero, List.getElem?_cons_succ] at q0 q1 q2 q3 q4 q5 q6
    clear hq
    refine bodyPost_ret (v := .tuple #[.int .i64 6, .agg #[.int .i64 (n : Int), .int .i64 (c : Int), .slice kA k.length kc, .slice wA ws.length wc, .bool false, .int .u64 falls, .int .i64 fuse]]) (by simp [results, Try.results30, go_sem, q0, q1, q2, q3, q4, q5, q6]) rfl ?_
    have hs0 := HS0.out
    have hG := grown_put7 W0 (w.heap.size + 1) (.int .i64 (n : Int)) (.int .i64 (c : Int)) (.slice kA k.length kc) (.slice wA ws.length wc) (.bool false) (.int .u64 falls) (.int .i64 fuse)
    have hW := (HB0.out.grown hG (by omega) (fun k hk => by injection hk with hk; omega)).drew
    rw [HY.out.1, HY.out.2]
    exact ⟨⟨n, c, kA, kc, k, wA, wc, ws, false, falls, fuse⟩, rfl, HP.out, ((H.out.below HB0.out).grown HZ0.out hG).below ((Below.refl _ _).drew), hW⟩
  by_cases hic : (c : Int) ≤ i
  · have HY := hide_ (writeP_no (p := p) (i := i) s (rerrP_out (by rw [← HP.out]; rfl) (.inr (by rw [← HP.out]; exact hic))) (by decide))
    go_enter Try.func30, Try.ntmps30
    go_upto_region 1 with fail
    rw [HW0.out]
    have hcx := HX0.out.cell
    have hcz := HZ0.out.cell
    have hfz := HZ0.out.free9
    go_wp2
    go_region
    go_wp2
    clear hcx hcz hfz
    have HE := hide_ (HZ0.out.put7 (.int .i64 (n : Int)) (.int .i64 (c : Int)) (.slice kA k.length kc) (.slice wA ws.length wc) (.bool false) (.int .u64 falls) (.int .i64 fuse))
    have hq := HE.out.cell
    have q0 := hq 0
    have q1 := hq 1
    have q2 := hq 2
    have q3 := hq 3
    have q4 := hq 4
    have q5 := hq 5
    have q6 := hq 6
    simp only [List.getElem?_toArray, List.getElem?_cons_zero, List.getElem?_cons_succ] at q0 q1 q2 q3 q4 q5 q6
    clear hq
    refine bodyPost_ret (v := .tuple #[.int .i64 6, .agg #[.int .i64 (n : Int), .int .i64 (c : Int), .slice kA k.length kc, .slice wA ws.length wc, .bool false, .int .u64 falls, .int .i64 fuse]]) (by simp [results, Try.results30, go_sem, q0, q1, q2, q3, q4, q5, q6]) rfl ?_
    have hs0 := HS0.out
    have hG := grown_put7 W0 (w.heap.size + 1) (.int .i64 (n : Int)) (.int .i64 (c : Int)) (.slice kA k.length kc) (.slice wA ws.length wc) (.bool false) (.int .u64 falls) (.int .i64 fuse)
    have hW := (HB0.out.grown hG (by omega) (fun k hk => by injection hk with hk; omega)).drew
    rw [HY.out.1, HY.out.2]
    exact ⟨⟨n, c, kA, kc, k, wA, wc, ws, false, falls, fuse⟩, rfl, HP.out, ((H.out.below HB0.out).grown HZ0.out hG).below ((Below.refl _ _).drew), hW⟩
  have hin := hide_ (rerrP_in (p := p) (i := i) (by rw [← HP.out]; rfl) ⟨by omega, by rw [← HP.out]; show i < (c : Int); omega⟩)
  by_cases hln : s.length = n
  case neg =>
    have hne : ((s.length : Int) != (n : Int)) = true := bne_iff_ne.2 (by omega)
    have HY := hide_ (writeP_len (p := p) (s := s) hin.out (by rw [← HP.out]; exact hln))
    go_enter Try.func30, Try.ntmps30
    go_upto_region 1 with fail
    rw [HW0.out]
    have hcx := HX0.out.cell
    have hcz := HZ0.out.cell
    have hfz := HZ0.out.free9
    go_wp2
    go_region
    go_wp2
    clear hcx hcz hfz
    have HE := hide_ (HZ0.out.put7 (.int .i64 (n : Int)) (.int .i64 (c : Int)) (.slice kA k.length kc) (.slice wA ws.length wc) (.bool false) (.int .u64 falls) (.int .i64 fuse))
    have hq := HE.out.cell
    have q0 := hq 0
    have q1 := hq 1
    have q2 := hq 2
    have q3 := hq 3
    have q4 := hq 4
    have q5 := hq 5
    have q6 := hq 6
    simp only [List.getElem?_toArray, List.getElem?_cons_zero, List.getElem?_cons_succ] at q0 q1 q2 q3 q4 q5 q6
    clear hq
    refine bodyPost_ret (v := .tuple #[.int .i64 3, .agg #[.int .i64 (n : Int), .int .i64 (c : Int), .slice kA k.length kc, .slice wA ws.length wc, .bool false, .int .u64 falls, .int .i64 fuse]]) (by simp [results, Try.results30, go_sem, q0, q1, q2, q3, q4, q5, q6]) rfl ?_
    have hs0 := HS0.out
    have hG := grown_put7 W0 (w.heap.size + 1) (.int .i64 (n : Int)) (.int .i64 (c : Int)) (.slice kA k.length kc) (.slice wA ws.length wc) (.bool false) (.int .u64 falls) (.int .i64 fuse)
    have hW := (HB0.out.grown hG (by omega) (fun k hk => by injection hk with hk; omega)).drew
    rw [HY.out.1, HY.out.2]
    exact ⟨⟨n, c, kA, kc, k, wA, wc, ws, false, falls, fuse⟩, rfl, HP.out, ((H.out.below HB0.out).grown HZ0.out hG).below ((Below.refl _ _).drew), hW⟩
  case pos =>
    have HY := hide_ (writeP_in (p := p) (s := s) hin.out (by rw [← HP.out]; exact hln))
    have hne : ((s.length : Int) != (n : Int)) = false := by rw [hln]; simp
    obtain ⟨iN, rfl⟩ : ∃ k : Nat, i = (k : Int) := ⟨i.toNat, by omega⟩
    rw [Int.toNat_natCast] at HY
    have hic2 : iN < c := by omega
    obtain ⟨ws3, hws3⟩ : ∃ l, ws ++ [(iN, s)] = l := ⟨_, rfl⟩
    have hl3 : ws.length + 1 = ws3.length := by rw [← hws3]; simp
    have HL3 := hide_ hl3
    have HWC := hide_ (show wC ws ++ [.int .i64 (iN : Int), .string (strOf s)] = wC ws3 by rw [← hws3, ← wC_snoc])
    have HPW := hide_ (show ∀ q ∈ ws3, q.1 < c ∧ q.2.length = n from fun q hq => by
      rw [← hws3] at hq
      rcases List.mem_append.1 hq with hq | hq
      · exact H.out.wl q hq
      · simp at hq
        subst hq
        exact ⟨hic2, hln⟩)
    have hP3 : ({ p with ws := p.ws ++ [(iN, s)] } : RP) = RdM.p ⟨n, c, kA, kc, k, none, 0, ws3, false, falls, fuse⟩ := by
      rw [← HP.out, ← hws3]
      rfl
    rw [hP3] at HY
    have hn3 : ws3.length ≤ 100000 := by omega
    have hwn : ws.length ≤ 100000 := by omega
    have H0 := hide_ (own_empty9 (w := W0) (base := W0.heap.size) (s := 2) 78 (Nat.le_refl _))
    have HWS := hide_ (Sees.ownRow9 ((H.out.below HB0.out).ws.alloc (.cells #[] 78)))
    have H1 := hide_ (wC_one ws)
    have HA0 := hide_ (show Below W0.heap.size W0 (W0.alloc (.cells #[] 78)) from (Below.refl _ _).alloc (Nat.le_refl _) _)
    have HX1 := hide_ (HX0.out.alloc (.cells #[] 78))
    clear hws3 hP3 hl3
    go_enter Try.func30, Try.ntmps30
    go_upto_region 1 with fail
    rw [HW0.out]
    have hcx0 := HX0.out.cell
    have hcx := HX1.out.cell
    go_upto_region 8 with (at_builtin; refine wpList_append_grown _ rfl _ _ 31 rfl W0.heap.size 78 (.agg #[.int .i64 0, .string { data := #[] }]) 2 24 rw_info12 rfl (by omega) Try.underlying31 _ 0 [] rfl H0.out _ wA ws.length wc (wC ws) rfl (wC_length ws) HWS.out H1.out (by omega) (by omega) (by simp) ws.length (by omega) (wC ws) rfl ?_; intro A1 c1 w1 hown hb; have HO1 := hide_ hown; have HG1 := hide_ (show (W0.alloc (.cells #[] 78)).grownBy w1 (some W0.heap.size) from hb); clear hown hb)
    have HB1 := hide_ (HA0.out.grown HG1.out (by simp) (fun k e => by injection e with e; omega))
    clear hcx hcx0 HX1 HA0 HG1 H0 HWS H1
    have HX1 := hide_ (HX0.out.below HB1.out)
    have HZ1 := hide_ (HZ0.out.below HB1.out)
    have HBX := hide_ (sees_box w1 #[.int .i64 (iN : Int), .string (strOf s)] 78 [.int .i64 (iN : Int), .string (strOf s)] rfl)
    have HOA := hide_ (HO1.out.alloc (.cells #[.int .i64 (iN : Int), .string (strOf s)] 78))
    have HBA := hide_ (show W0.heap.size ≤ (w1.alloc (.cells #[.int .i64 (iN : Int), .string (strOf s)] 78)).heap.size from Nat.le_trans HB1.out.size (by simp))
    have H1 := hide_ (show ∀ u ∈ [Value.int .i64 (iN : Int), .string (strOf s)], u.oneCell' = true from fun u hu => by simp at hu; rcases hu with rfl | rfl <;> rfl)
    go_upto_region 9 with (at_builtin; refine wpList_append_grown _ rfl _ _ 31 rfl W0.heap.size 78 (.agg #[.int .i64 0, .string { data := #[] }]) 2 24 rw_info12 rfl (by omega) Try.underlying31 _ ws.length (wC ws) rfl HOA.out (w1.heap.size + 1) (some ⟨w1.heap.size, 0, none⟩) 1 1 [.int .i64 (iN : Int), .string (strOf s)] rfl rfl HBX.out H1.out (by omega) (by omega) HBA.out ws3.length HL3.out (wC ws3) HWC.out ?_; intro A2 c2 w2 hown hb; have HO2 := hide_ hown; have HG2 := hide_ (show (w1.alloc (.cells #[.int .i64 (iN : Int), .string (strOf s)] 78)).grownBy w2 (Value.slice A1 ws.length c1).ownBlock from hb); have HX2 := hide_ ((HX1.out.alloc (.cells #[.int .i64 (iN : Int), .string (strOf s)] 78)).grown9 (by decide) HOA.out HG2.out); have hcx2 := HX2.out.cell; have hfx2 := HX2.out.free9; clear hown hb)
    obtain ⟨W3, hW3⟩ : ∃ W, w2.setCell ⟨w.heap.size, 3, none⟩ (.slice A2 ws3.length c2) = W := ⟨_, rfl⟩
    rw [hW3]
    have HZ2 := hide_ ((HZ1.out.alloc (.cells #[.int .i64 (iN : Int), .string (strOf s)] 78)).grown9 (by decide) HOA.out HG2.out)
    have hB2 := (HB1.out.alloc HB1.out.size (.cells #[.int .i64 (iN : Int), .string (strOf s)] 78)).grown HG2.out HBA.out (fun k hk => (HOA.out.lt k hk).1)
    have hB2' := HB0.out.trans (hB2.mono HB0.out.size)
    have hG3 : w2.grownBy W3 (some w.heap.size) := hW3 ▸ grown_cell9 _ w.heap.size 3 _
    have hX3 : BoxAt W3 w.heap.size #[.int .i64 (n : Int), .int .i64 (c : Int), .slice kA k.length kc, .slice A2 ws3.length c2, .bool false, .int .u64 falls, .int .i64 fuse] 34 := hW3 ▸ HX2.out.set9 3 _
    have hs0 := HS0.out
    have hs2 := hB2.size
    have HZ3 := hide_ (HZ2.out.more12 hG3 (by omega))
    have hk2 := own_below H.out.k hB2'
    have hk3 := own_other9 hk2 (HX2.out.apart9 (by decide) hk2) hG3
    have hw3 := own_other9 HO2.out (HX2.out.apart9 (by decide) HO2.out) hG3
    have HO3 := hide_ (show RdM.ok W3 ⟨n, c, kA, kc, k, A2, c2, ws3, false, falls, fuse⟩ from ⟨hk3, own_mono hw3 (Nat.zero_le _), H.out.f, ⟨H.out.sz.1, H.out.sz.2.1, H.out.sz.2.2.1, H.out.sz.2.2.2.1, hn3⟩, H.out.kl, HPW.out⟩)
    have HB3 := hide_ (hB2'.grown hG3 (by omega) (fun k hk => by injection hk with hk; omega))
    have HX3 := hide_ hX3
    have HS3 := hide_ (show w.heap.size + 1 < W3.heap.size by have := hG3.size; omega)
    have HBB := hide_ (HBU.out _ W3 HO3.out)
    simp only [RdM.v, RdM.cs] at HBB
    clear hW3 hB2 hB2' hG3 hX3 hs0 hs2 hk2 hk3 hw3 hcx2 hfx2 HBX HOA HBA H1 HX1 HX2 HZ1 HZ2 HG2 HO1 HO2 HB1
    have hcx := HX3.out.cell
    go_wp2_with fail
    refine HBB.out.mono ?_
    rintro e w4 ⟨x1, rfl, hp1, hok, hb1⟩
    obtain ⟨n1, c1, kA1, kc1, k1, wA1, wc1, ws1, off1, falls1, fuse1⟩ := x1
    obtain ⟨W1, hW1⟩ : ∃ W1, w4.alloc (.cells #[.int .i64 (n1 : Int), .int .i64 (c1 : Int), .slice kA1 k1.length kc1, .slice wA1 ws1.length wc1, .bool off1, .int .u64 falls1, .int .i64 fuse1] 34) = W1 := ⟨_, rfl⟩
    have hn1 := BoxAt.new w4 #[.int .i64 (n1 : Int), .int .i64 (c1 : Int), .slice kA1 k1.length kc1, .slice wA1 ws1.length wc1, .bool off1, .int .u64 falls1, .int .i64 fuse1] 34
    have hz1 := (HZ3.out.below hb1).alloc (.cells #[.int .i64 (n1 : Int), .int .i64 (c1 : Int), .slice kA1 k1.length kc1, .slice wA1 ws1.length wc1, .bool off1, .int .u64 falls1, .int .i64 fuse1] 34)
    have ho1 := hok.below ((Below.refl _ _).alloc (Nat.le_refl _) (.cells #[.int .i64 (n1 : Int), .int .i64 (c1 : Int), .slice kA1 k1.length kc1, .slice wA1 ws1.length wc1, .bool off1, .int .u64 falls1, .int .i64 fuse1] 34))
    have hb2 := (HB3.out.trans (hb1.mono HB3.out.size)).alloc (Nat.le_trans HB3.out.size hb1.size) (.cells #[.int .i64 (n1 : Int), .int .i64 (c1 : Int), .slice kA1 k1.length kc1, .slice wA1 ws1.length wc1, .bool off1, .int .u64 falls1, .int .i64 fuse1] 34)
    have hsz : W1.heap.size = w4.heap.size + 1 := by rw [← hW1]; simp
    have hs1 : w.heap.size + 1 < w4.heap.size := by have := hb1.size; have := HS3.out; omega
    rw [hW1] at hn1 hz1 ho1 hb2
    obtain ⟨g, hg⟩ : ∃ g, w4.heap.size = g := ⟨_, rfl⟩
    rw [hg] at hn1 hs1 hsz
    have HG := hide_ hg
    have HW1 := hide_ hW1
    have HN1 := hide_ hn1
    have HZ1 := hide_ hz1
    have HO1 := hide_ ho1
    have HB1 := hide_ hb2
    have HS1 := hide_ (And.intro hs1 hsz)
    have HP1 := hide_ hp1
    clear hW1 hn1 hz1 ho1 hb2 hsz hs1 hp1 hok hb1 hg hcx
    simp only [RdM.v, RdM.cs]
    obtain ⟨q, hq⟩ : ∃ q, RdM.p ⟨n, c, kA, kc, k, A2, c2, ws3, false, falls, fuse⟩ = q := ⟨_, rfl⟩
    rw [hq] at HP1 ⊢
    have hq2 : RdM.p ⟨n, c, kA, kc, k, none, 0, ws3, false, falls, fuse⟩ = q := hq
    rw [hq2] at HY
    clear hq hq2
    cases hbp : (burnsP q).1 with
    | true =>
      rw [hbp] at HY
      go_upto_region 10 with fail
      rw [HW1.out, HG.out]
      have hcn := HN1.out.cell
      have hcz := HZ1.out.cell
      have hfz := HZ1.out.free9
      go_wp2
      go_region
      go_wp2
      clear hcn hcz hfz
      have HE := hide_ (HZ1.out.put7 (.int .i64 (n1 : Int)) (.int .i64 (c1 : Int)) (.slice kA1 k1.length kc1) (.slice wA1 ws1.length wc1) (.bool off1) (.int .u64 falls1) (.int .i64 fuse1))
      have hq := HE.out.cell
      have q0 := hq 0
      have q1 := hq 1
      have q2 := hq 2
      have q3 := hq 3
      have q4 := hq 4
      have q5 := hq 5
      have q6 := hq 6
      simp only [List.getElem?_toArray, List.getElem?_cons_zero, List.getElem?_cons_succ] at q0 q1 q2 q3 q4 q5 q6
      clear hq
      refine bodyPost_ret (v := .tuple #[.int .i64 8, .agg #[.int .i64 (n1 : Int), .int .i64 (c1 : Int), .slice kA1 k1.length kc1, .slice wA1 ws1.length wc1, .bool off1, .int .u64 falls1, .int .i64 fuse1]]) (by simp [results, Try.results30, go_sem, q0, q1, q2, q3, q4, q5, q6]) rfl ?_
      have hs1 := HS1.out
      have hG := grown_put7 W1 (w.heap.size + 1) (.int .i64 (n1 : Int)) (.int .i64 (c1 : Int)) (.slice kA1 k1.length kc1) (.slice wA1 ws1.length wc1) (.bool off1) (.int .u64 falls1) (.int .i64 fuse1)
      have hW := (HB1.out.grown hG (by omega) (fun k hk => by injection hk with hk; omega)).drew
      rw [HY.out.1, HY.out.2]
      exact ⟨⟨n1, c1, kA1, kc1, k1, wA1, wc1, ws1, off1, falls1, fuse1⟩, rfl, HP1.out, (HO1.out.grown HZ1.out hG).below ((Below.refl _ _).drew), hW⟩
    | false =>
      rw [hbp] at HY
      go_upto_region 10 with fail
      rw [HW1.out, HG.out]
      have hcn := HN1.out.cell
      have hcz := HZ1.out.cell
      have hfz := HZ1.out.free9
      go_wp2
      go_region
      go_wp2
      clear hcn hcz hfz
      have HE := hide_ (HZ1.out.put7 (.int .i64 (n1 : Int)) (.int .i64 (c1 : Int)) (.slice kA1 k1.length kc1) (.slice wA1 ws1.length wc1) (.bool off1) (.int .u64 falls1) (.int .i64 fuse1))
      have hq := HE.out.cell
      have q0 := hq 0
      have q1 := hq 1
      have q2 := hq 2
      have q3 := hq 3
      have q4 := hq 4
      have q5 := hq 5
      have q6 := hq 6
      simp only [List.getElem?_toArray, List.getElem?_cons_zero, List.getElem?_cons_succ] at q0 q1 q2 q3 q4 q5 q6
      clear hq
      refine bodyPost_ret (v := .tuple #[.int .i64 0, .agg #[.int .i64 (n1 : Int), .int .i64 (c1 : Int), .slice kA1 k1.length kc1, .slice wA1 ws1.length wc1, .bool off1, .int .u64 falls1, .int .i64 fuse1]]) (by simp [results, Try.results30, go_sem, q0, q1, q2, q3, q4, q5, q6]) rfl ?_
      have hs1 := HS1.out
      have hG := grown_put7 W1 (w.heap.size + 1) (.int .i64 (n1 : Int)) (.int .i64 (c1 : Int)) (.slice kA1 k1.length kc1) (.slice wA1 ws1.length wc1) (.bool off1) (.int .u64 falls1) (.int .i64 fuse1)
      have hW := (HB1.out.grown hG (by omega) (fun k hk => by injection hk with hk; omega)).drew
      rw [HY.out.1, HY.out.2]
      exact ⟨⟨n1, c1, kA1, kc1, k1, wA1, wc1, ws1, off1, falls1, fuse1⟩, rfl, HP1.out, (HO1.out.grown HZ1.out hG).below ((Below.refl _ _).drew), hW⟩
end Go.Proofs.Ytcpoppfifadbiaa
