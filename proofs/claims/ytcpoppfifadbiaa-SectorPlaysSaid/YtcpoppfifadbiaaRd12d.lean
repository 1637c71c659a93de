/-
  Contracts of the document's Sync and Write.
-/
import Derived.Test.YtcpoppfifadbiaaRd12c
namespace Go.Proofs.Ytcpoppfifadbiaa
open Go.RowKit

/-- what a function of the document's leaves that answers an error's number and a disk -/
def RefE12 (w : World) (er : Int) (P : RP) (e : Ending) (w' : World) : Prop := ∃ x : RdM, e = .returned (.tuple #[.int .i64 er, x.v]) ∧ x.p = P ∧ RdM.ok w' x ∧ Below w.heap.size w w'
theorem syncP_off {p : RP} (h : p.off = true) : syncP p = p ∧ synerrP p = 8 := by simp [syncP, synerrP, h]
theorem syncP_down {p : RP} (h : p.off = false) (h1 : (burnsP p).1 = true) : syncP p = (burnsP p).2 ∧ synerrP p = 8 := by simp [syncP, synerrP, h, h1]
theorem syncP_on {p : RP} (h : p.off = false) (h1 : (burnsP p).1 = false) : syncP p = { settledP (burnsP p).2 (burnsP p).2.ws with ws := [] } ∧ synerrP p = 0 := by simp [syncP, synerrP, h, h1]
/-- a box holds the cells that were stored, whatever lay in it -/
theorem BoxAt.more12 {w : World} {z : Nat} {cs : Array Value} {T : TypeId} (h : BoxAt w z cs T) {g : Nat} {w' : World} (hw : w.grownBy w' (some g)) (hne : g ≠ z) : BoxAt w' z cs T := (hw.block z h.lt (fun e => hne (by injection e with e; exact e.symm))).trans h

set_option maxRecDepth 100000 in
set_option maxHeartbeats 1600000 in
theorem refSync12_any (x : RdM) (w : World) (h : RdM.ok w x) : Calls Try.prog 32 #[x.v] w (RefE12 w (synerrP x.p) (syncP x.p)) := by
  have H := hide_ h
  have HBU := hide_ (fun (u : World) (hu : RdM.ok u x) => refBurns12_any x u hu)
  obtain ⟨n, c, kA, kc, k, wA, wc, ws, off, falls, fuse⟩ := x
  simp only [RdM.v, RdM.cs] at HBU ⊢
  obtain ⟨p, hp⟩ : ∃ p, RdM.p ⟨n, c, kA, kc, k, wA, wc, ws, off, falls, fuse⟩ = p := ⟨_, rfl⟩
  rw [hp] at HBU ⊢
  obtain ⟨W0, hW0, hx0, hz0, hs0, hb0⟩ := boxes12 w #[.int .i64 (n : Int), .int .i64 (c : Int), .slice kA k.length kc, .slice wA ws.length wc, .bool off, .int .u64 falls, .int .i64 fuse]
  have HP := hide_ hp
  have HW0 := hide_ hW0
  have HX0 := hide_ hx0
  have HZ0 := hide_ hz0
  have HS0 := hide_ hs0
  have HB0 := hide_ hb0
  clear hW0 hx0 hz0 hs0 hb0 h hp
  cases off with
  | true =>
    have HY := hide_ (syncP_off (p := p) (by rw [← HP.out]; rfl))
    go_enter Try.func32, Try.ntmps32
    go_upto_region 1 with fail
    rw [HW0.out]
    have hcx := HX0.out.cell
    have hcz := HZ0.out.cell
    have hfz := HZ0.out.free9
    go_wp2
    go_region
    go_wp2
    clear hcx hcz hfz
    have HE := hide_ (HZ0.out.put7 (.int .i64 (n : Int)) (.int .i64 (c : Int)) (.slice kA k.length kc) (.slice wA ws.length wc) (.bool true) (.int .u64 falls) (.int .i64 fuse))
    have hq := HE.out.cell
    have q0 := hq 0
    have q1 := hq 1
    have q2 := hq 2
    have q3 := hq 3
    have q4 := hq 4
    have q5 := hq 5
    have q6 := hq 6
    simp only [List.getElem?_toArray, List.getElem?_cons_zero, List.getElem?_cons_succ] at q0 q1 q2 q3 q4 q5 q6
    clear hq
    refine bodyPost_ret (v := .tuple #[.int .i64 8, .agg #[.int .i64 (n : Int), .int .i64 (c : Int), .slice kA k.length kc, .slice wA ws.length wc, .bool true, .int .u64 falls, .int .i64 fuse]]) (by simp [results, Try.results32, go_sem, q0, q1, q2, q3, q4, q5, q6]) rfl ?_
    have hs0 := HS0.out
    have hG := grown_put7 W0 (w.heap.size + 1) (.int .i64 (n : Int)) (.int .i64 (c : Int)) (.slice kA k.length kc) (.slice wA ws.length wc) (.bool true) (.int .u64 falls) (.int .i64 fuse)
    have hW := (HB0.out.grown hG (by omega) (fun k hk => by injection hk with hk; omega)).drew
    rw [HY.out.1, HY.out.2]
    exact ⟨⟨n, c, kA, kc, k, wA, wc, ws, true, falls, fuse⟩, rfl, HP.out, ((H.out.below HB0.out).grown HZ0.out hG).below ((Below.refl _ _).drew), hW⟩
  | false =>
    go_enter Try.func32, Try.ntmps32
    go_upto_region 1 with fail
    rw [HW0.out]
    have hcx := HX0.out.cell
    go_wp2_with fail
    refine (HBU.out _ (H.out.below HB0.out)).mono ?_
    rintro e w1 ⟨x1, rfl, hp1, hok, hb1⟩
    obtain ⟨n1, c1, kA1, kc1, k1, wA1, wc1, ws1, off1, falls1, fuse1⟩ := x1
    obtain ⟨W1, hW1⟩ : ∃ W1, w1.alloc (.cells #[.int .i64 (n1 : Int), .int .i64 (c1 : Int), .slice kA1 k1.length kc1, .slice wA1 ws1.length wc1, .bool off1, .int .u64 falls1, .int .i64 fuse1] 34) = W1 := ⟨_, rfl⟩
    have hn1 := BoxAt.new w1 #[.int .i64 (n1 : Int), .int .i64 (c1 : Int), .slice kA1 k1.length kc1, .slice wA1 ws1.length wc1, .bool off1, .int .u64 falls1, .int .i64 fuse1] 34
    have hz1 := (HZ0.out.below hb1).alloc (.cells #[.int .i64 (n1 : Int), .int .i64 (c1 : Int), .slice kA1 k1.length kc1, .slice wA1 ws1.length wc1, .bool off1, .int .u64 falls1, .int .i64 fuse1] 34)
    have ho1 := hok.below ((Below.refl _ _).alloc (Nat.le_refl _) (.cells #[.int .i64 (n1 : Int), .int .i64 (c1 : Int), .slice kA1 k1.length kc1, .slice wA1 ws1.length wc1, .bool off1, .int .u64 falls1, .int .i64 fuse1] 34))
    have hb2 := (HB0.out.trans (hb1.mono HB0.out.size)).alloc (Nat.le_trans HB0.out.size hb1.size) (.cells #[.int .i64 (n1 : Int), .int .i64 (c1 : Int), .slice kA1 k1.length kc1, .slice wA1 ws1.length wc1, .bool off1, .int .u64 falls1, .int .i64 fuse1] 34)
    have hsz : W1.heap.size = w1.heap.size + 1 := by rw [← hW1]; simp
    have hs1 : w.heap.size + 1 < w1.heap.size := by have := hb1.size; have := HS0.out; omega
    rw [hW1] at hn1 hz1 ho1 hb2
    obtain ⟨g, hg⟩ : ∃ g, w1.heap.size = g := ⟨_, rfl⟩
    rw [hg] at hn1 hs1 hsz
    have HG := hide_ hg
    have HW1 := hide_ hW1
    have HN1 := hide_ hn1
    have HZ1 := hide_ hz1
    have HO1 := hide_ ho1
    have HB1 := hide_ hb2
    have HS1 := hide_ (And.intro hs1 hsz)
    have HP1 := hide_ hp1
    clear hW1 hn1 hz1 ho1 hb2 hsz hs1 hp1 hok hb1 hg hcx
    simp only [RdM.v, RdM.cs]
    cases hbp : (burnsP p).1 with
    | true =>
      have HY := hide_ (syncP_down (p := p) (by rw [← HP.out]; rfl) hbp)
      go_upto_region 4 with fail
      rw [HW1.out, HG.out]
      have hcn := HN1.out.cell
      have hcz := HZ1.out.cell
      have hfz := HZ1.out.free9
      go_wp2
      go_region
      go_wp2
      clear hcn hcz hfz
      have HE := hide_ (HZ1.out.put7 (.int .i64 (n1 : Int)) (.int .i64 (c1 : Int)) (.slice kA1 k1.length kc1) (.slice wA1 ws1.length wc1) (.bool off1) (.int .u64 falls1) (.int .i64 fuse1))
      have hq := HE.out.cell
      have q0 := hq 0
      have q1 := hq 1
      have q2 := hq 2
      have q3 := hq 3
      have q4 := hq 4
      have q5 := hq 5
      have q6 := hq 6
      simp only [List.getElem?_toArray, List.getElem?_cons_zero, List.getElem?_cons_succ] at q0 q1 q2 q3 q4 q5 q6
      clear hq
      refine bodyPost_ret (v := .tuple #[.int .i64 8, .agg #[.int .i64 (n1 : Int), .int .i64 (c1 : Int), .slice kA1 k1.length kc1, .slice wA1 ws1.length wc1, .bool off1, .int .u64 falls1, .int .i64 fuse1]]) (by simp [results, Try.results32, go_sem, q0, q1, q2, q3, q4, q5, q6]) rfl ?_
      have hs1 := HS1.out
      have hG := grown_put7 W1 (w.heap.size + 1) (.int .i64 (n1 : Int)) (.int .i64 (c1 : Int)) (.slice kA1 k1.length kc1) (.slice wA1 ws1.length wc1) (.bool off1) (.int .u64 falls1) (.int .i64 fuse1)
      have hW := (HB1.out.grown hG (by omega) (fun k hk => by injection hk with hk; omega)).drew
      rw [HY.out.1, HY.out.2]
      exact ⟨⟨n1, c1, kA1, kc1, k1, wA1, wc1, ws1, off1, falls1, fuse1⟩, rfl, HP1.out, (HO1.out.grown HZ1.out hG).below ((Below.refl _ _).drew), hW⟩
    | false =>
      have HY := hide_ (syncP_on (p := p) (by rw [← HP.out]; rfl) hbp)
      have hokw := HO1.out.sz
      have HST := hide_ (refSettled12_any ⟨n1, c1, kA1, kc1, k1, wA1, wc1, ws1, off1, falls1, fuse1⟩ ws1 W1.heap.size wA1 ws1.length wc1 W1 HO1.out (Sees.ownRow9 HO1.out.ws) rfl (Nat.le_refl _) HO1.out.wl (by simpa using hokw.2.2.2.2))
      simp only [RdM.v, RdM.cs] at HST
      clear hokw
      go_upto_region 4 with fail
      rw [HW1.out, HG.out]
      have hcn := HN1.out.cell
      go_wp2_with fail
      refine HST.out.mono ?_
      rintro e w2 ⟨x2, rfl, hp2, hok2, hb2⟩
      obtain ⟨n2, c2, kA2, kc2, k2, wA2, wc2, ws2, off2, falls2, fuse2⟩ := x2
      have HN2 := hide_ (HN1.out.below hb2)
      have HZ2 := hide_ (HZ1.out.below hb2)
      have HO2 := hide_ hok2
      have HP2 := hide_ hp2
      have HB2 := hide_ (HB1.out.trans (hb2.mono HB1.out.size))
      have HS2 := hide_ hb2.size
      clear hp2 hok2 hb2 hcn
      simp only [RdM.v, RdM.cs]
      have hcn := HN2.out.cell
      have hfn := HN2.out.free9
      go_upto_region 7 with fail
      obtain ⟨W2, hW2⟩ : ∃ W2, (((((((w2.setCell ⟨g, 0, none⟩ (.int .i64 (n2 : Int))).setCell ⟨g, 1, none⟩ (.int .i64 (c2 : Int))).setCell ⟨g, 2, none⟩ (.slice kA2 k2.length kc2)).setCell ⟨g, 3, none⟩ (.slice wA2 ws2.length wc2)).setCell ⟨g, 4, none⟩ (.bool off2)).setCell ⟨g, 5, none⟩ (.int .u64 falls2)).setCell ⟨g, 6, none⟩ (.int .i64 fuse2)) = W2 := ⟨_, rfl⟩
      have hG2 : w2.grownBy W2 (some g) := hW2 ▸ grown_put7 w2 g (.int .i64 (n2 : Int)) (.int .i64 (c2 : Int)) (.slice kA2 k2.length kc2) (.slice wA2 ws2.length wc2) (.bool off2) (.int .u64 falls2) (.int .i64 fuse2)
      have hN3 : BoxAt W2 g #[.int .i64 (n2 : Int), .int .i64 (c2 : Int), .slice kA2 k2.length kc2, .slice wA2 ws2.length wc2, .bool off2, .int .u64 falls2, .int .i64 fuse2] 34 := hW2 ▸ HN2.out.put7 (.int .i64 (n2 : Int)) (.int .i64 (c2 : Int)) (.slice kA2 k2.length kc2) (.slice wA2 ws2.length wc2) (.bool off2) (.int .u64 falls2) (.int .i64 fuse2)
      have hs1 := HS1.out
      have hs2 := HS2.out
      have hZ3 := HZ2.out.more12 hG2 (by omega)
      have hO3 := HO2.out.grown HN2.out hG2
      have hB3 := HB2.out.grown hG2 (by omega) (fun k hk => by injection hk with hk; omega)
      have hg2 := hG2.size
      rw [hW2]
      have hb4 : Below W2.heap.size W2 (W2.alloc (.cells #[] 78)) := (Below.refl _ _).alloc (Nat.le_refl _) _
      have HN4 := hide_ (hN3.below hb4)
      have HZ4 := hide_ (hZ3.below hb4)
      have HO4 := hide_ (hO3.below hb4)
      have HB4 := hide_ (hB3.alloc hB3.size (.cells #[] 78))
      have HE4 := hide_ (own_empty9 (w := W2) (base := W2.heap.size) (s := 2) 78 (Nat.le_refl _))
      have HS4 := hide_ (show w.heap.size + 1 < g ∧ g < (W2.alloc (.cells #[] 78)).heap.size ∧ w.heap.size + 1 < W2.heap.size from ⟨by omega, by simp; omega, by omega⟩)
      clear hG2 hN3 hs1 hs2 hZ3 hO3 hB3 hg2 hb4 hcn hfn hW2
      have hcn := HN4.out.cell
      have hfn := HN4.out.free9
      go_upto_region 8 with fail
      obtain ⟨W4, hW4⟩ : ∃ W4, (W2.alloc (.cells #[] 78)).setCell ⟨g, 3, none⟩ (.slice (some ⟨W2.heap.size, 0, none⟩) 0 0) = W4 := ⟨_, rfl⟩
      rw [hW4]
      have hG4 : (W2.alloc (.cells #[] 78)).grownBy W4 (some g) := hW4 ▸ grown_cell9 _ g 3 _
      have hN5 : BoxAt W4 g #[.int .i64 (n2 : Int), .int .i64 (c2 : Int), .slice kA2 k2.length kc2, .slice (some ⟨W2.heap.size, 0, none⟩) 0 0, .bool off2, .int .u64 falls2, .int .i64 fuse2] 34 := hW4 ▸ HN4.out.set9 3 _
      have hs4 := HS4.out
      have HZ5 := hide_ (HZ4.out.more12 hG4 (by omega))
      have HK5 := hide_ (own_other9 HO4.out.k (HN4.out.apart9 (by decide) HO4.out.k) hG4)
      have HE5 := hide_ (own_other9 HE4.out (HN4.out.apart9 (by decide) HE4.out) hG4)
      have HB5 := hide_ (HB4.out.grown hG4 (by omega) (fun k hk => by injection hk with hk; omega))
      have HS5 := hide_ hG4.size
      have HN5 := hide_ hN5
      clear hG4 hN5 hs4 hcn hfn hW4
      have hcn := HN5.out.cell
      have hcz := HZ5.out.cell
      have hfz := HZ5.out.free9
      go_wp2
      go_region
      go_wp2
      clear hcn hcz hfz
      have HE := hide_ (HZ5.out.put7 (.int .i64 (n2 : Int)) (.int .i64 (c2 : Int)) (.slice kA2 k2.length kc2) (.slice (some ⟨W2.heap.size, 0, none⟩) 0 0) (.bool off2) (.int .u64 falls2) (.int .i64 fuse2))
      have hq := HE.out.cell
      have q0 := hq 0
      have q1 := hq 1
      have q2 := hq 2
      have q3 := hq 3
      have q4 := hq 4
      have q5 := hq 5
      have q6 := hq 6
      simp only [List.getElem?_toArray, List.getElem?_cons_zero, List.getElem?_cons_succ] at q0 q1 q2 q3 q4 q5 q6
      clear hq
      refine bodyPost_ret (v := .tuple #[.int .i64 0, .agg #[.int .i64 (n2 : Int), .int .i64 (c2 : Int), .slice kA2 k2.length kc2, .slice (some ⟨W2.heap.size, 0, none⟩) 0 0, .bool off2, .int .u64 falls2, .int .i64 fuse2]]) (by simp [results, Try.results32, go_sem, q0, q1, q2, q3, q4, q5, q6]) rfl ?_
      have hs4 := HS4.out
      have hs5 := HS5.out
      have hG := grown_put7 W4 (w.heap.size + 1) (.int .i64 (n2 : Int)) (.int .i64 (c2 : Int)) (.slice kA2 k2.length kc2) (.slice (some ⟨W2.heap.size, 0, none⟩) 0 0) (.bool off2) (.int .u64 falls2) (.int .i64 fuse2)
      have hW := (HB5.out.grown hG (by omega) (fun k hk => by injection hk with hk; omega)).drew
      have e1 := own_other9 HK5.out (HZ5.out.apart9 (by decide) HK5.out) hG
      have e2 := own_other9 HE5.out (HZ5.out.apart9 (by decide) HE5.out) hG
      have hd : Below ((((((((W4.setCell ⟨(w.heap.size + 1), 0, none⟩ (.int .i64 (n2 : Int))).setCell ⟨(w.heap.size + 1), 1, none⟩ (.int .i64 (c2 : Int))).setCell ⟨(w.heap.size + 1), 2, none⟩ (.slice kA2 k2.length kc2)).setCell ⟨(w.heap.size + 1), 3, none⟩ (.slice (some ⟨W2.heap.size, 0, none⟩) 0 0)).setCell ⟨(w.heap.size + 1), 4, none⟩ (.bool off2)).setCell ⟨(w.heap.size + 1), 5, none⟩ (.int .u64 falls2)).setCell ⟨(w.heap.size + 1), 6, none⟩ (.int .i64 fuse2))).heap.size ((((((((W4.setCell ⟨(w.heap.size + 1), 0, none⟩ (.int .i64 (n2 : Int))).setCell ⟨(w.heap.size + 1), 1, none⟩ (.int .i64 (c2 : Int))).setCell ⟨(w.heap.size + 1), 2, none⟩ (.slice kA2 k2.length kc2)).setCell ⟨(w.heap.size + 1), 3, none⟩ (.slice (some ⟨W2.heap.size, 0, none⟩) 0 0)).setCell ⟨(w.heap.size + 1), 4, none⟩ (.bool off2)).setCell ⟨(w.heap.size + 1), 5, none⟩ (.int .u64 falls2)).setCell ⟨(w.heap.size + 1), 6, none⟩ (.int .i64 fuse2))) ((((((((W4.setCell ⟨(w.heap.size + 1), 0, none⟩ (.int .i64 (n2 : Int))).setCell ⟨(w.heap.size + 1), 1, none⟩ (.int .i64 (c2 : Int))).setCell ⟨(w.heap.size + 1), 2, none⟩ (.slice kA2 k2.length kc2)).setCell ⟨(w.heap.size + 1), 3, none⟩ (.slice (some ⟨W2.heap.size, 0, none⟩) 0 0)).setCell ⟨(w.heap.size + 1), 4, none⟩ (.bool off2)).setCell ⟨(w.heap.size + 1), 5, none⟩ (.int .u64 falls2)).setCell ⟨(w.heap.size + 1), 6, none⟩ (.int .i64 fuse2))).drew := (Below.refl _ _).drew
      have hsz := HO4.out.sz
      rw [HY.out.1, HY.out.2]
      refine ⟨⟨n2, c2, kA2, kc2, k2, some ⟨W2.heap.size, 0, none⟩, 0, [], off2, falls2, fuse2⟩, rfl, ?_, ⟨own_below e1 hd, own_mono (own_below e2 hd) (Nat.zero_le _), HO4.out.f, ⟨hsz.1, hsz.2.1, hsz.2.2.1, hsz.2.2.2.1, Nat.zero_le _⟩, HO4.out.kl, fun q hq => by cases hq⟩, hW⟩
      have h1 := HP1.out
      have h2 := HP2.out
      rw [← h1]
      show ({ RdM.p ⟨n2, c2, kA2, kc2, k2, wA2, wc2, ws2, off2, falls2, fuse2⟩ with ws := [] } : RP) = _
      rw [h2]
      rfl
end Go.Proofs.Ytcpoppfifadbiaa
