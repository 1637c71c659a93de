/-
  Contract of the document's Back.
-/
import Derived.Test.YtcpoppfifadbiaaRd12g
import Derived.Deep.WholeRow
import Derived.Deep.MidRow
import Derived.Deep.RegionHeld
namespace Go.Proofs.Ytcpoppfifadbiaa
open Go.RowKit

theorem rd_size12 : (Try.prog.info? 34).map (·.size) = some 7 := by kernel_rfl
theorem row_grown12 (w : World) (g : Nat) (cs : Array Value) : w.grownBy (w.setRow g cs) (some g) ∧ (w.setRow g cs).heap.size = w.heap.size := by
  refine ⟨⟨rfl, rfl, rfl, by simp [World.setRow], fun k hk hne => ?_⟩, by simp [World.setRow]⟩
  simp only [World.setRow]
  rw [Array.getElem?_modify, if_neg (fun e => hne (by rw [e]))]
/-- the walk's step in a drawn region: a disk is written into its box as a whole -/
theorem step_store12 {ops : Array Oper} {o : Oper} {a : Act} {w : World} {K : Act → World → Prop} {R : Exit → Act → World → Prop} {E : Prop}
    (hgd : Region.wanted o (yielded ops a.tmps) = true) (x y : Operand) (ho : o.op = .store 34 x y) {g : Nat} {cs : Array Value} (hx : a.eval x = .pointer (some ⟨g, 0, none⟩)) (hy : a.eval y = .agg cs) (hn : cs.size = 7) (h1 : cs.all (·.oneCell') = true)
    {old : Array Value} (hb : BoxAt w g old 34) (hold : old.size = 7)
    (hK : ∀ W, Hid (BoxAt W g cs 34) → Hid (w.grownBy W (some g)) → K a W) (hd : o.dst = none) : if Region.wanted o (yielded ops a.tmps) = true then Oper.wp Try.prog o a w K R else E := by
  rw [if_pos hgd]
  obtain ⟨hg, hs⟩ := row_grown12 w g cs
  have hK := fun W h1 h2 => show K (a.put o.dst undef) W from by rw [hd]; exact hK W h1 h2
  exact wp_store_row _ x y ho g cs hx hy _ old hb (by rw [rd_size12, hn]) (by rw [hold, hn]) h1 (hK (w.setRow g cs) (hide_ (setRow_heap w g old cs _ (0, 0) hb)) (hide_ hg))
theorem strOf_torn12 (a b : List UInt8) (m : Nat) : (strOf a).extract 0 m ++ (strOf b).extract m b.length = strOf (a.take m ++ b.drop m) := by
  apply ByteArray.ext
  simp [strOf]
  rw [List.take_of_length_le]
  rw [List.length_drop]
  exact Nat.le_refl _
theorem wC_take (l : List (Nat × List UInt8)) (m : Nat) : (wC l).take (m * 2) = wC (l.take m) := by
  induction l generalizing m with
  | nil => simp [wC]
  | cons q l ih =>
    cases m with
    | zero => simp [wC]
    | succ m =>
      have := ih m
      have e : (m + 1) * 2 = m * 2 + 1 + 1 := by omega
      rw [e]
      simpa [wC] using this
theorem own_cap12 {w : World} {base n c s : Nat} {e : TypeId} {A : Option Addr} {xs : List Value} (h : w.ownsRow base e s (.slice A n c) n xs) : n ≤ c := by
  rcases h.2 with ⟨hv, h0⟩ | ⟨g, cap, cur, hv, _, hg, hc, _⟩
  · omega
  · injection hv with _ _ hv
    omega
def mP (p : RP) (keep : Int) : Nat := min keep.toNat p.ws.length
/-- what Back has settled -/
def backS (p : RP) (keep : Int) (torn : Bool) : RP :=
  if torn = true ∧ 0 < mP p keep then settledP (settledP (fallsP p) (p.ws.take (mP p keep - 1))) [tornP p.n ((p.ws.take (mP p keep - 1)).foldl setl p.k) (p.ws.getD (mP p keep - 1) (0, []))] else settledP (fallsP p) (p.ws.take (mP p keep))
theorem back_end12 {p q : RP} {keep : Int} {torn : Bool} (h : q = backS p keep torn) : (⟨q.n, q.c, q.k, [], false, q.falls, -1⟩ : RP) = backP p keep torn := by
  subst h
  rfl

/-- where Back stands once all is settled -/
structure BackAt (w : World) (x : RdM) (W : World) : Prop where
  n : BoxAt W w.heap.size x.cs 34
  z : BoxAt W (w.heap.size + 1) #[.int .i64 0, .int .i64 0, .slice none 0 0, .slice none 0 0, .bool false, .int .u64 0, .int .i64 0] 34
  o : RdM.ok W x
  b : Below w.heap.size w W
  s : w.heap.size + 1 < W.heap.size
theorem BackAt.below {w W W' : World} {x : RdM} (h : BackAt w x W) (hb : Below W.heap.size W W') : BackAt w x W' := ⟨h.n.below hb, h.z.below hb, h.o.below hb, h.b.trans (hb.mono h.b.size), Nat.lt_of_lt_of_le h.s hb.size⟩
theorem BackAt.put {w W W' : World} {x y : RdM} (h : BackAt w x W) (hy : RdM.ok W y) (hg : W.grownBy W' (some w.heap.size)) (hn : BoxAt W' w.heap.size y.cs 34) : BackAt w y W' :=
  ⟨hn, h.z.more12 hg (by omega), hy.grown h.n hg, h.b.grown hg h.b.size (fun k hk => by injection hk with hk; omega), Nat.lt_of_lt_of_le h.s hg.size⟩

set_option maxRecDepth 100000 in
set_option maxHeartbeats 25600000 in
theorem refBack12_any (x : RdM) (keep : Int) (torn : Bool) (w : World) (h : RdM.ok w x) : Calls Try.prog 16 #[x.v, .int .i64 keep, .bool torn] w (Ref12 w (backP x.p keep torn)) := by
  have H := hide_ h
  have HFA := hide_ (fun (u : World) (hu : RdM.ok u x) => refFalls12_any x u hu)
  obtain ⟨n, c, kA, kc, k, wA, wc, ws, off, falls, fuse⟩ := x
  simp only [RdM.v, RdM.cs] at HFA ⊢
  obtain ⟨p, hp⟩ : ∃ p, RdM.p ⟨n, c, kA, kc, k, wA, wc, ws, off, falls, fuse⟩ = p := ⟨_, rfl⟩
  rw [hp] at HFA ⊢
  obtain ⟨W0, hW0, hx0, hz0, hs0, hb0⟩ := boxes12 w #[.int .i64 (n : Int), .int .i64 (c : Int), .slice kA k.length kc, .slice wA ws.length wc, .bool off, .int .u64 falls, .int .i64 fuse]
  have HP := hide_ hp
  have HW0 := hide_ hW0
  have HA0 := hide_ (show BackAt w ⟨n, c, kA, kc, k, wA, wc, ws, off, falls, fuse⟩ W0 ∨ W0.heap.size = w.heap.size + 1 + 1 from .inr hs0)
  have HX0 := hide_ hx0
  have HZ0 := hide_ hz0
  have HS0 := hide_ hs0
  have HB0 := hide_ hb0
  clear hW0 hx0 hz0 hs0 hb0 h hp HA0
  go_enter Try.func16, Try.ntmps16
  go_upto_region 1 with fail
  rw [HW0.out]
  have hcx := HX0.out.cell
  go_wp2_with fail
  refine (HFA.out _ (H.out.below HB0.out)).mono ?_
  rintro e w1 ⟨x1, rfl, hp1, hok1, hb1⟩
  obtain ⟨n1, c1, kA1, kc1, k1, wA1, wc1, ws1, off1, falls1, fuse1⟩ := x1
  simp only [RdM.v, RdM.cs]
  clear hcx
  have hx1 := HX0.out.below hb1
  have hcx := hx1.cell
  have hfx := hx1.free9
  have hlim : ws1.length ≤ wc1 := own_cap12 hok1.ws
  obtain ⟨mN, hmN⟩ : ∃ m : Nat, (if (ws1.length : Int) < (if keep < 0 then 0 else keep) then (ws1.length : Int) else (if keep < 0 then 0 else keep)) = (m : Int) := ⟨min keep.toNat ws1.length, by split <;> split <;> omega⟩
  have HMN := hide_ hmN
  obtain ⟨kM, hkM⟩ : ∃ z, (if keep < 0 then 0 else keep) = z := ⟨_, rfl⟩
  have HKM := hide_ hkM
  have hm1 : mN ≤ ws1.length := by
    revert hmN
    split <;> split <;> omega
  have hmP : mP p keep = mN := by
    have e1 : p.ws = ws1 := by
      have := congrArg RP.ws hp1
      exact this.symm
    unfold mP
    rw [e1]
    revert hmN
    split <;> split <;> omega
  have HMP := hide_ hmP
  clear hmN hkM
  go_upto_region 2 with fail
  obtain ⟨W1, hW1⟩ : ∃ W1, (((((((w1.setCell ⟨w.heap.size, 0, none⟩ (.int .i64 (n1 : Int))).setCell ⟨w.heap.size, 1, none⟩ (.int .i64 (c1 : Int))).setCell ⟨w.heap.size, 2, none⟩ (.slice kA1 k1.length kc1)).setCell ⟨w.heap.size, 3, none⟩ (.slice wA1 ws1.length wc1)).setCell ⟨w.heap.size, 4, none⟩ (.bool off1)).setCell ⟨w.heap.size, 5, none⟩ (.int .u64 falls1)).setCell ⟨w.heap.size, 6, none⟩ (.int .i64 fuse1)) = W1 := ⟨_, rfl⟩
  rw [hW1]
  have hG1 : w1.grownBy W1 (some w.heap.size) := hW1 ▸ grown_put7 w1 w.heap.size (.int .i64 (n1 : Int)) (.int .i64 (c1 : Int)) (.slice kA1 k1.length kc1) (.slice wA1 ws1.length wc1) (.bool off1) (.int .u64 falls1) (.int .i64 fuse1)
  have hs1 := hb1.size
  have hs0 := HS0.out
  have HA1 := hide_ (show BackAt w ⟨n1, c1, kA1, kc1, k1, wA1, wc1, ws1, off1, falls1, fuse1⟩ W1 from ⟨hW1 ▸ hx1.put7 (.int .i64 (n1 : Int)) (.int .i64 (c1 : Int)) (.slice kA1 k1.length kc1) (.slice wA1 ws1.length wc1) (.bool off1) (.int .u64 falls1) (.int .i64 fuse1), (HZ0.out.below hb1).more12 hG1 (by omega), hok1.grown hx1 hG1, (HB0.out.trans (hb1.mono HB0.out.size)).grown hG1 (by omega) (fun k hk => by injection hk with hk; omega), by have := hG1.size; omega⟩)
  have HP1 := hide_ hp1
  clear hx1 hcx hfx hok1 hb1 hp1 hG1 hs1 hs0 hW1 hmP
  have hcx := HA1.out.n.cell
  simp only [RdM.cs] at hcx
  go_upto_region 3 with fail
  rw [HMN.out, HKM.out]
  go_upto_region 4 with fail
  have hoT : (torn = false ∨ (torn = true ∧ mN = 0)) ∨ (torn = true ∧ 0 < mN) := by cases torn <;> simp <;> omega
  have HWL := hide_ (wC_take ws1 mN)
  rcases hoT with hB | ⟨rfl, hm0⟩
  · have HST := hide_ (refSettled12_any ⟨n1, c1, kA1, kc1, k1, wA1, wc1, ws1, off1, falls1, fuse1⟩ (ws1.take mN) W1.heap.size wA1 mN wc1 W1 HA1.out.o (by rw [← HWL.out]; exact (Sees.ownRow9 HA1.out.o.ws).take _) (by rw [List.length_take]; omega) (Nat.le_refl _) (fun q hq => HA1.out.o.wl q (List.mem_of_mem_take hq)) (Nat.le_trans hm1 HA1.out.o.sz.2.2.2.2))
    have HBQ := hide_ (show backS p keep torn = settledP (fallsP p) (ws1.take mN) by
      have e1 : p.ws = ws1 := (congrArg RP.ws HP1.out).symm
      rw [backS, HMP.out, e1, if_neg]
      rintro ⟨h1, h2⟩
      rcases hB with h | h
      · rw [h] at h1
        cases h1
      · have := h.2; omega)
    simp only [RdM.v, RdM.cs] at HST
    have hup : ∀ (w2 : World) (x2 : RdM), RdM.ok w2 x2 → Below W1.heap.size W1 w2 → ∀ W2, w2.grownBy W2 (some w.heap.size) → BoxAt W2 w.heap.size x2.cs 34 → BackAt w x2 W2 := fun w2 x2 h1 h2 W2 h3 h4 => (HA1.out.below h2).put h1 h3 h4
    have HUP := hide_ hup
    clear hup
    rcases hB with rfl | ⟨rfl, rfl⟩
    · clear hcx
      have hcx := HA1.out.n.cell
      simp only [RdM.cs] at hcx
      have HX1 := hide_ HA1.out.n
      simp only [RdM.cs] at HX1
      go_upto_region 9 with (go_at_call 40; refine HST.out.mono ?_; rintro e w2 ⟨x2, rfl, hp2, hok2, hb2⟩; (obtain ⟨n2, c2, kA2, kc2, k2, wA2, wc2, ws2, off2, falls2, fuse2⟩ := x2); simp only [RdM.v, RdM.cs]; have hx2 := HX1.out.below hb2; have hcx2 := hx2.cell; have hfx2 := hx2.free9; have HH2 := hide_ (And.intro hx2 (And.intro hp2 (And.intro hok2 hb2))); clear hx2 hp2 hok2 hb2)
      obtain ⟨hx2, hp2, hok2, hb2⟩ := HH2.out
      obtain ⟨W2, hW2⟩ : ∃ W2, (((((((w2.setCell ⟨w.heap.size, 0, none⟩ (.int .i64 (n2 : Int))).setCell ⟨w.heap.size, 1, none⟩ (.int .i64 (c2 : Int))).setCell ⟨w.heap.size, 2, none⟩ (.slice kA2 k2.length kc2)).setCell ⟨w.heap.size, 3, none⟩ (.slice wA2 ws2.length wc2)).setCell ⟨w.heap.size, 4, none⟩ (.bool off2)).setCell ⟨w.heap.size, 5, none⟩ (.int .u64 falls2)).setCell ⟨w.heap.size, 6, none⟩ (.int .i64 fuse2)) = W2 := ⟨_, rfl⟩
      rw [hW2]
      have hg2 : w2.grownBy W2 (some w.heap.size) := hW2 ▸ grown_put7 w2 w.heap.size (.int .i64 (n2 : Int)) (.int .i64 (c2 : Int)) (.slice kA2 k2.length kc2) (.slice wA2 ws2.length wc2) (.bool off2) (.int .u64 falls2) (.int .i64 fuse2)
      have hn2 : BoxAt W2 w.heap.size #[.int .i64 (n2 : Int), .int .i64 (c2 : Int), .slice kA2 k2.length kc2, .slice wA2 ws2.length wc2, .bool off2, .int .u64 falls2, .int .i64 fuse2] 34 := hW2 ▸ hx2.put7 (.int .i64 (n2 : Int)) (.int .i64 (c2 : Int)) (.slice kA2 k2.length kc2) (.slice wA2 ws2.length wc2) (.bool off2) (.int .u64 falls2) (.int .i64 fuse2)
      have HA2 := hide_ (HUP.out w2 ⟨n2, c2, kA2, kc2, k2, wA2, wc2, ws2, off2, falls2, fuse2⟩ hok2 hb2 W2 hg2 hn2)
      have HBS := hide_ (show RdM.p ⟨n2, c2, kA2, kc2, k2, wA2, wc2, ws2, off2, falls2, fuse2⟩ = backS p keep false by rw [HBQ.out, hp2, ← HP1.out])
      clear hg2 hn2 hx2 hcx hcx2 hfx2 hok2 hb2 hp2 hW2 HH2
      have HE2 := hide_ (own_empty9 (w := W2) (base := W2.heap.size) (s := 2) 78 (Nat.le_refl _))
      have HA3 := hide_ (HA2.out.below (show Below W2.heap.size W2 (W2.alloc (.cells #[] 78)) from (Below.refl _ _).alloc (Nat.le_refl _) _))
      have hcx := HA3.out.n.cell
      have hfx := HA3.out.n.free9
      simp only [RdM.cs] at hcx
      go_upto_region 12 with fail
      obtain ⟨W4, hW4⟩ : ∃ W4, (((W2.alloc (.cells #[] 78)).setCell ⟨w.heap.size, 3, none⟩ (.slice (some ⟨W2.heap.size, 0, none⟩) 0 0)).setCell ⟨w.heap.size, 4, none⟩ (.bool false)).setCell ⟨w.heap.size, 6, none⟩ (.int .i64 (-1)) = W4 := ⟨_, rfl⟩
      rw [hW4]
      have hG4 : (W2.alloc (.cells #[] 78)).grownBy W4 (some w.heap.size) := hW4 ▸ grown_set (grown_set (grown_cell9 _ w.heap.size 3 _) 4 _) 6 _
      have hn4 : BoxAt W4 w.heap.size #[.int .i64 (n2 : Int), .int .i64 (c2 : Int), .slice kA2 k2.length kc2, .slice (some ⟨W2.heap.size, 0, none⟩) 0 0, .bool false, .int .u64 falls2, .int .i64 (-1)] 34 := by
        have h1 := ((HA3.out.n.set9 3 (.slice (some ⟨W2.heap.size, 0, none⟩) 0 0)).set9 4 (.bool false)).set9 6 (.int .i64 (-1))
        rw [hW4] at h1
        simpa [RdM.cs] using h1
      have HN4 := hide_ hn4
      have hz4 := HA3.out.z.more12 hG4 (by omega)
      have HZ4 := hide_ hz4
      have HK4 := hide_ (own_other9 HA3.out.o.k (HA3.out.n.apart9 (by decide) HA3.out.o.k) hG4)
      have HE4 := hide_ (own_other9 HE2.out (HA3.out.n.apart9 (by decide) HE2.out) hG4)
      have HB4 := hide_ (HA3.out.b.grown hG4 HA3.out.b.size (fun k hk => by injection hk with hk; omega))
      have HS4 := hide_ (Nat.lt_of_lt_of_le HA3.out.s hG4.size)
      clear hG4 hn4 hz4 hcx hfx hW4
      have hcx := HN4.out.cell
      have hcz := HZ4.out.cell
      have hfz := HZ4.out.free9
      go_wp2
      clear hcx hcz hfz
      have HE := hide_ (HZ4.out.put7 (.int .i64 (n2 : Int)) (.int .i64 (c2 : Int)) (.slice kA2 k2.length kc2) (.slice (some ⟨W2.heap.size, 0, none⟩) 0 0) (.bool false) (.int .u64 falls2) (.int .i64 (-1)))
      have hq := HE.out.cell
      have q0 := hq 0
      have q1 := hq 1
      have q2 := hq 2
      have q3 := hq 3
      have q4 := hq 4
      have q5 := hq 5
      have q6 := hq 6
      simp only [List.getElem?_toArray, List.getElem?_cons_zero, List.getElem?_cons_succ] at q0 q1 q2 q3 q4 q5 q6
      clear hq
      refine bodyPost_ret (v := .agg #[.int .i64 (n2 : Int), .int .i64 (c2 : Int), .slice kA2 k2.length kc2, .slice (some ⟨W2.heap.size, 0, none⟩) 0 0, .bool false, .int .u64 falls2, .int .i64 (-1)]) (by simp [results, Try.results16, go_sem, q0, q1, q2, q3, q4, q5, q6]) rfl ?_
      have hs4 := HS4.out
      have hG := grown_put7 W4 (w.heap.size + 1) (.int .i64 (n2 : Int)) (.int .i64 (c2 : Int)) (.slice kA2 k2.length kc2) (.slice (some ⟨W2.heap.size, 0, none⟩) 0 0) (.bool false) (.int .u64 falls2) (.int .i64 (-1))
      have hW := HB4.out.grown hG (by omega) (fun k hk => by injection hk with hk; omega)
      have e1 := own_other9 HK4.out (HZ4.out.apart9 (by decide) HK4.out) hG
      have e2 := own_other9 HE4.out (HZ4.out.apart9 (by decide) HE4.out) hG
      have hsz := HA3.out.o.sz
      refine ⟨⟨n2, c2, kA2, kc2, k2, some ⟨W2.heap.size, 0, none⟩, 0, [], false, falls2, -1⟩, rfl, ?_, ⟨e1, own_mono e2 (Nat.zero_le _), ⟨show (-1 : Int) ≤ 9223372036854775807 by omega, show (-1 : Int) ≤ -1 by omega⟩, ⟨hsz.1, hsz.2.1, hsz.2.2.1, hsz.2.2.2.1, Nat.zero_le _⟩, HA3.out.o.kl, fun q hq => by cases hq⟩, hW⟩
      exact back_end12 HBS.out
    · clear hcx
      have hcx := HA1.out.n.cell
      simp only [RdM.cs] at hcx
      have HX1 := hide_ HA1.out.n
      simp only [RdM.cs] at HX1
      go_upto_region 9 with (go_at_call 40; refine HST.out.mono ?_; rintro e w2 ⟨x2, rfl, hp2, hok2, hb2⟩; (obtain ⟨n2, c2, kA2, kc2, k2, wA2, wc2, ws2, off2, falls2, fuse2⟩ := x2); simp only [RdM.v, RdM.cs]; have hx2 := HX1.out.below hb2; have hcx2 := hx2.cell; have hfx2 := hx2.free9; have HH2 := hide_ (And.intro hx2 (And.intro hp2 (And.intro hok2 hb2))); clear hx2 hp2 hok2 hb2)
      obtain ⟨hx2, hp2, hok2, hb2⟩ := HH2.out
      obtain ⟨W2, hW2⟩ : ∃ W2, (((((((w2.setCell ⟨w.heap.size, 0, none⟩ (.int .i64 (n2 : Int))).setCell ⟨w.heap.size, 1, none⟩ (.int .i64 (c2 : Int))).setCell ⟨w.heap.size, 2, none⟩ (.slice kA2 k2.length kc2)).setCell ⟨w.heap.size, 3, none⟩ (.slice wA2 ws2.length wc2)).setCell ⟨w.heap.size, 4, none⟩ (.bool off2)).setCell ⟨w.heap.size, 5, none⟩ (.int .u64 falls2)).setCell ⟨w.heap.size, 6, none⟩ (.int .i64 fuse2)) = W2 := ⟨_, rfl⟩
      rw [hW2]
      have hg2 : w2.grownBy W2 (some w.heap.size) := hW2 ▸ grown_put7 w2 w.heap.size (.int .i64 (n2 : Int)) (.int .i64 (c2 : Int)) (.slice kA2 k2.length kc2) (.slice wA2 ws2.length wc2) (.bool off2) (.int .u64 falls2) (.int .i64 fuse2)
      have hn2 : BoxAt W2 w.heap.size #[.int .i64 (n2 : Int), .int .i64 (c2 : Int), .slice kA2 k2.length kc2, .slice wA2 ws2.length wc2, .bool off2, .int .u64 falls2, .int .i64 fuse2] 34 := hW2 ▸ hx2.put7 (.int .i64 (n2 : Int)) (.int .i64 (c2 : Int)) (.slice kA2 k2.length kc2) (.slice wA2 ws2.length wc2) (.bool off2) (.int .u64 falls2) (.int .i64 fuse2)
      have HA2 := hide_ (HUP.out w2 ⟨n2, c2, kA2, kc2, k2, wA2, wc2, ws2, off2, falls2, fuse2⟩ hok2 hb2 W2 hg2 hn2)
      have HBS := hide_ (show RdM.p ⟨n2, c2, kA2, kc2, k2, wA2, wc2, ws2, off2, falls2, fuse2⟩ = backS p keep true by rw [HBQ.out, hp2, ← HP1.out])
      clear hg2 hn2 hx2 hcx hcx2 hfx2 hok2 hb2 hp2 hW2 HH2
      have HE2 := hide_ (own_empty9 (w := W2) (base := W2.heap.size) (s := 2) 78 (Nat.le_refl _))
      have HA3 := hide_ (HA2.out.below (show Below W2.heap.size W2 (W2.alloc (.cells #[] 78)) from (Below.refl _ _).alloc (Nat.le_refl _) _))
      have hcx := HA3.out.n.cell
      have hfx := HA3.out.n.free9
      simp only [RdM.cs] at hcx
      go_upto_region 12 with fail
      obtain ⟨W4, hW4⟩ : ∃ W4, (((W2.alloc (.cells #[] 78)).setCell ⟨w.heap.size, 3, none⟩ (.slice (some ⟨W2.heap.size, 0, none⟩) 0 0)).setCell ⟨w.heap.size, 4, none⟩ (.bool false)).setCell ⟨w.heap.size, 6, none⟩ (.int .i64 (-1)) = W4 := ⟨_, rfl⟩
      rw [hW4]
      have hG4 : (W2.alloc (.cells #[] 78)).grownBy W4 (some w.heap.size) := hW4 ▸ grown_set (grown_set (grown_cell9 _ w.heap.size 3 _) 4 _) 6 _
      have hn4 : BoxAt W4 w.heap.size #[.int .i64 (n2 : Int), .int .i64 (c2 : Int), .slice kA2 k2.length kc2, .slice (some ⟨W2.heap.size, 0, none⟩) 0 0, .bool false, .int .u64 falls2, .int .i64 (-1)] 34 := by
        have h1 := ((HA3.out.n.set9 3 (.slice (some ⟨W2.heap.size, 0, none⟩) 0 0)).set9 4 (.bool false)).set9 6 (.int .i64 (-1))
        rw [hW4] at h1
        simpa [RdM.cs] using h1
      have HN4 := hide_ hn4
      have hz4 := HA3.out.z.more12 hG4 (by omega)
      have HZ4 := hide_ hz4
      have HK4 := hide_ (own_other9 HA3.out.o.k (HA3.out.n.apart9 (by decide) HA3.out.o.k) hG4)
      have HE4 := hide_ (own_other9 HE2.out (HA3.out.n.apart9 (by decide) HE2.out) hG4)
      have HB4 := hide_ (HA3.out.b.grown hG4 HA3.out.b.size (fun k hk => by injection hk with hk; omega))
      have HS4 := hide_ (Nat.lt_of_lt_of_le HA3.out.s hG4.size)
      clear hG4 hn4 hz4 hcx hfx hW4
      have hcx := HN4.out.cell
      have hcz := HZ4.out.cell
      have hfz := HZ4.out.free9
      go_wp2
      clear hcx hcz hfz
      have HE := hide_ (HZ4.out.put7 (.int .i64 (n2 : Int)) (.int .i64 (c2 : Int)) (.slice kA2 k2.length kc2) (.slice (some ⟨W2.heap.size, 0, none⟩) 0 0) (.bool false) (.int .u64 falls2) (.int .i64 (-1)))
      have hq := HE.out.cell
      have q0 := hq 0
      have q1 := hq 1
      have q2 := hq 2
      have q3 := hq 3
      have q4 := hq 4
      have q5 := hq 5
      have q6 := hq 6
      simp only [List.getElem?_toArray, List.getElem?_cons_zero, List.getElem?_cons_succ] at q0 q1 q2 q3 q4 q5 q6
      clear hq
      refine bodyPost_ret (v := .agg #[.int .i64 (n2 : Int), .int .i64 (c2 : Int), .slice kA2 k2.length kc2, .slice (some ⟨W2.heap.size, 0, none⟩) 0 0, .bool false, .int .u64 falls2, .int .i64 (-1)]) (by simp [results, Try.results16, go_sem, q0, q1, q2, q3, q4, q5, q6]) rfl ?_
      have hs4 := HS4.out
      have hG := grown_put7 W4 (w.heap.size + 1) (.int .i64 (n2 : Int)) (.int .i64 (c2 : Int)) (.slice kA2 k2.length kc2) (.slice (some ⟨W2.heap.size, 0, none⟩) 0 0) (.bool false) (.int .u64 falls2) (.int .i64 (-1))
      have hW := HB4.out.grown hG (by omega) (fun k hk => by injection hk with hk; omega)
      have e1 := own_other9 HK4.out (HZ4.out.apart9 (by decide) HK4.out) hG
      have e2 := own_other9 HE4.out (HZ4.out.apart9 (by decide) HE4.out) hG
      have hsz := HA3.out.o.sz
      refine ⟨⟨n2, c2, kA2, kc2, k2, some ⟨W2.heap.size, 0, none⟩, 0, [], false, falls2, -1⟩, rfl, ?_, ⟨e1, own_mono e2 (Nat.zero_le _), ⟨show (-1 : Int) ≤ 9223372036854775807 by omega, show (-1 : Int) ≤ -1 by omega⟩, ⟨hsz.1, hsz.2.1, hsz.2.2.1, hsz.2.2.2.1, Nat.zero_le _⟩, HA3.out.o.kl, fun q hq => by cases hq⟩, hW⟩
      exact back_end12 HBS.out
  · obtain ⟨jN, rfl⟩ : ∃ j, mN = j + 1 := ⟨mN - 1, by omega⟩
    have hjl : jN < ws1.length := by omega
    have hjc : jN ≤ wc1 := by omega
    have hwr : IntKind.i64.wrap (jN : Int) = jN := by have h1 : ws1.length ≤ 100000 := HA1.out.o.sz.2.2.2.2; rw [IntKind.wrap_i64]; omega
    have HD1 := hide_ (HA1.out.below ((Below.refl _ _).drew))
    have HST := hide_ (refSettled12_any ⟨n1, c1, kA1, kc1, k1, wA1, wc1, ws1, off1, falls1, fuse1⟩ (ws1.take jN) W1.drew.heap.size wA1 jN wc1 W1.drew HD1.out.o (by rw [← wC_take]; exact (Sees.ownRow9 HD1.out.o.ws).take _) (by rw [List.length_take]; omega) (Nat.le_refl _) (fun q hq => HA1.out.o.wl q (List.mem_of_mem_take hq)) (Nat.le_trans (show jN ≤ ws1.length by omega) HA1.out.o.sz.2.2.2.2))
    simp only [RdM.v, RdM.cs] at HST
    have HX1 := hide_ HD1.out.n
    simp only [RdM.cs] at HX1
    clear hcx
    have hcx := HA1.out.n.cell
    simp only [RdM.cs] at hcx
    go_upto_region 5 with fail
    go_region_law (go_simp; go_at_call 40; refine HST.out.mono ?_; rintro e w2 ⟨x2, rfl, hp2, hok2, hb2⟩; (obtain ⟨n2, c2, kA2, kc2, k2, wA2, wc2, ws2, off2, falls2, fuse2⟩ := x2); simp only [RdM.v, RdM.cs]; have hx2 := HX1.out.below hb2; have hcx2 := hx2.cell; have hfx2 := hx2.free9; have HH2 := hide_ (And.intro hx2 (And.intro hp2 (And.intro hok2 hb2))); clear hx2 hp2 hok2 hb2)
    obtain ⟨hx2, hp2, hok2, hb2⟩ := HH2.out
    obtain ⟨W2, hW2⟩ : ∃ W2, (((((((w2.setCell ⟨w.heap.size, 0, none⟩ (.int .i64 (n2 : Int))).setCell ⟨w.heap.size, 1, none⟩ (.int .i64 (c2 : Int))).setCell ⟨w.heap.size, 2, none⟩ (.slice kA2 k2.length kc2)).setCell ⟨w.heap.size, 3, none⟩ (.slice wA2 ws2.length wc2)).setCell ⟨w.heap.size, 4, none⟩ (.bool off2)).setCell ⟨w.heap.size, 5, none⟩ (.int .u64 falls2)).setCell ⟨w.heap.size, 6, none⟩ (.int .i64 fuse2)) = W2 := ⟨_, rfl⟩
    rw [hW2]
    have hg2 : w2.grownBy W2 (some w.heap.size) := hW2 ▸ grown_put7 w2 w.heap.size (.int .i64 (n2 : Int)) (.int .i64 (c2 : Int)) (.slice kA2 k2.length kc2) (.slice wA2 ws2.length wc2) (.bool off2) (.int .u64 falls2) (.int .i64 fuse2)
    have hn2 : BoxAt W2 w.heap.size #[.int .i64 (n2 : Int), .int .i64 (c2 : Int), .slice kA2 k2.length kc2, .slice wA2 ws2.length wc2, .bool off2, .int .u64 falls2, .int .i64 fuse2] 34 := hW2 ▸ hx2.put7 (.int .i64 (n2 : Int)) (.int .i64 (c2 : Int)) (.slice kA2 k2.length kc2) (.slice wA2 ws2.length wc2) (.bool off2) (.int .u64 falls2) (.int .i64 fuse2)
    have HA2 := hide_ ((HD1.out.below hb2).put hok2 hg2 hn2)
    have hw2 := own_below HD1.out.o.ws hb2
    obtain ⟨⟨qi, qs⟩, hq⟩ : ∃ q, ws1[jN]? = some q := ⟨_, List.getElem?_eq_getElem hjl⟩
    obtain ⟨qb, qo, rfl, -, hfl⟩ := (Sees.ownRow9 (own_other9 hw2 (hx2.apart9 (by decide) hw2) hg2)).flat (by rw [wC_length]; show 0 < ws1.length * 2; omega)
    obtain ⟨g1, g2⟩ := wC_get ws1 jN _ hq
    have hc1 := hfl _ _ g1
    have hc2 := hfl _ _ g2
    rw [← Nat.add_assoc] at hc2
    simp only at hc1 hc2
    have hwl := HA1.out.o.wl _ (List.mem_of_getElem? hq)
    have hcn1 : c2 = c1 ∧ n2 = n1 ∧ k2 = ((ws1.take jN).foldl setl k1) := ⟨congrArg RP.c hp2, congrArg RP.n hp2, congrArg RP.k hp2⟩
    obtain ⟨e1, e2, e3⟩ := hcn1
    simp only at hwl
    rw [← e1, ← e2] at hwl
    have hkl : k2.length = c2 := hok2.sz.2.2.2.1
    have hqk : qi < k2.length := by omega
    obtain ⟨kq, hkq⟩ : ∃ z, k2[qi]? = some z := ⟨_, List.getElem?_eq_getElem hqk⟩
    have hkn : kq.length = n2 := HA2.out.o.kl _ (List.mem_of_getElem? hkq)
    have HQ := hide_ (And.intro hq (And.intro hkq (And.intro hkn (And.intro hwl.2 (And.intro e2 e3)))))
    have HP2 := hide_ hp2
    have HQC := hide_ hwl.1
    clear hg2 hn2 hx2 hcx hcx2 hfx2 hok2 hb2 hp2 hW2 HH2 hw2 hfl g1 g2 hq e1 e2 e3 hwl hkl
    obtain ⟨W3, hW3⟩ : ∃ W3, W2.alloc (.cells #[.int .i64 (qi : Int), .string (strOf qs)] 78) = W3 := ⟨_, rfl⟩
    have hb3 : Below W2.heap.size W2 W3 := hW3 ▸ (Below.refl _ _).alloc (Nat.le_refl _) _
    have HA3 := hide_ (HA2.out.below hb3)
    have hbq : BoxAt W3 W2.heap.size #[.int .i64 (qi : Int), .string (strOf qs)] 78 := hW3 ▸ BoxAt.new W2 _ _
    have HBQ3 := hide_ hbq
    have HW3 := hide_ hW3
    have HSW := hide_ (show W2.heap.size < W3.heap.size from hbq.lt)
    clear hb3 hbq hW3
    go_upto_region 7 with fail
    rw [HW3.out]
    obtain ⟨kb, ko, hkA, hkbl, hfl⟩ := (Sees.ownRow9 HA3.out.o.k).flat (by rw [strC_length]; show 0 < k2.length; omega)
    have hck := hfl qi (.string (strOf kq)) (by unfold strC; rw [List.getElem?_map, hkq]; rfl)
    simp only at hkA
    subst hkA
    have HKB := hide_ (show kb ≠ w.heap.size from fun e => by
      have h1 := HA3.out.o.k
      have h2 := HA3.out.n.apart9 (by decide) h1
      exact h2 (by rw [← e]; rfl))
    have hcx := HA3.out.n.cell
    simp only [RdM.cs] at hcx
    have hcq := HBQ3.out.cell
    have hsq : (strOf qs).size = n2 := by show (strOf qs).data.size = n2; rw [← HQ.out.2.2.2.1]; simp [strOf]
    have hsk : (strOf kq).size = n2 := by show (strOf kq).data.size = n2; rw [← HQ.out.2.2.1]; simp [strOf]
    have hn2b : n2 ≤ 512 ∧ 64 ≤ n2 := ⟨HA3.out.o.sz.1, HA3.out.o.sz.2.1⟩
    obtain ⟨hf, hhf⟩ : ∃ hf, n2 / 2 = hf := ⟨_, rfl⟩
    have hdiv : (n2 : Int).tdiv 2 = (hf : Int) := by
      rw [Int.tdiv_eq_ediv_of_nonneg (by omega)]
      omega
    have hwf : IntKind.i64.wrap (hf : Int) = hf := by rw [IntKind.wrap_i64]; omega
    have hf2 : hf ≤ n2 := by omega
    have HHF := hide_ hhf
    clear hfl hkq hkn hhf
    have hbig : ¬ 9223372036854775807 < n2 := by omega
    obtain ⟨tq, htq⟩ : ∃ l, qs.take hf ++ kq.drop hf = l := ⟨_, rfl⟩
    have htorn : (strOf qs).extract 0 hf ++ (strOf kq).extract hf n2 = strOf tq := by rw [← htq, ← HQ.out.2.2.1]; exact strOf_torn12 qs kq hf
    have htl : tq.length = n2 := by rw [← htq, List.length_append, List.length_take, List.length_drop, HQ.out.2.2.2.1, HQ.out.2.2.1]; omega
    have HTQ := hide_ htq
    have hb4 : Below W3.heap.size W3 ((W3.alloc (.cells #[.int .i64 (qi : Int), .string (strOf tq)] 78)).drew) := ((Below.refl _ _).alloc (Nat.le_refl _) _).drew
    have HA4 := hide_ (HA3.out.below hb4)
    have HST2 := hide_ (refSettled12_any ⟨n2, c2, some ⟨kb, ko, none⟩, kc2, k2, wA2, wc2, ws2, off2, falls2, fuse2⟩ [(qi, tq)] (W3.heap.size + 1) (some ⟨W3.heap.size, 0, none⟩) 1 1 ((W3.alloc (.cells #[.int .i64 (qi : Int), .string (strOf tq)] 78)).drew) HA4.out.o ((sees_box W3 #[.int .i64 (qi : Int), .string (strOf tq)] 78 _ rfl).below ((Below.refl _ _).drew)) rfl (by simp) (fun r hr => by simp at hr; subst hr; exact ⟨HQC.out, htl⟩) (by omega))
    simp only [RdM.v, RdM.cs] at HST2
    have HX4 := hide_ HA4.out.n
    simp only [RdM.cs] at HX4
    clear htq htl
    have HF := hide_ (fun (u : World) (hu : Below W3.heap.size W3 u) => (⟨(HBQ3.out.below hu).cell 0, (HBQ3.out.below hu).cell 1, (HA3.out.n.below hu).cell 0, (hu.cell (p := ⟨kb, ko + qi, none⟩) hkbl).trans hck⟩ : _ ∧ _ ∧ _ ∧ _))
    have hd0 := (Below.refl W3.heap.size W3).drew
    have hS6 : ∀ (w5 W6 : World) (cs : Array Value), Below W3.heap.size W3 w5 → w5.grownBy W6 (some w.heap.size) → BoxAt W6 w.heap.size cs 34 → cs[0]? = some (.int .i64 (n2 : Int)) → W6.cell? ⟨W2.heap.size, 0, none⟩ = some (.int .i64 (qi : Int)) ∧ W6.cell? ⟨W2.heap.size, 1, none⟩ = some (.string (strOf qs)) ∧ W6.cell? ⟨w.heap.size, 0, none⟩ = some (.int .i64 (n2 : Int)) ∧ W6.cell? ⟨kb, ko + qi, none⟩ = some (.string (strOf kq)) := fun w5 W6 cs h1 h2 h3 h4 => by
      have b1 := (HBQ3.out.below h1).more12 h2 (fun e => two_kinds HA3.out.n HBQ3.out (by decide) e)
      refine ⟨b1.cell 0, b1.cell 1, (h3.cell 0).trans h4, ?_⟩
      have hne : kb ≠ w.heap.size := fun e => HKB.out e
      rw [World.cell?_of_block (w := w5) (h2.block kb (Nat.lt_of_lt_of_le hkbl h1.size) (fun e => hne (by injection e)))]
      exact (HF.out w5 h1).2.2.2
    have HBQ5 := hide_ (fun (P5 : RP) (h5 : P5 = settledP (RdM.p ⟨n2, c2, some ⟨kb, ko, none⟩, kc2, k2, wA2, wc2, ws2, off2, falls2, fuse2⟩) [(qi, tq)]) => show P5 = backS p keep true from by
      have e1 : p.ws = ws1 := (congrArg RP.ws HP1.out).symm
      have e4 : ws1.getD jN (0, []) = (qi, qs) := by rw [List.getD_eq_getElem?_getD, HQ.out.1]; rfl
      have e5 : k1 = p.k := congrArg RP.k HP1.out
      have e6 : n1 = p.n := congrArg RP.n HP1.out
      obtain ⟨h1, h2, h3, h4, h6, h7⟩ := HQ.out
      rw [h5, backS, HMP.out, if_pos ⟨rfl, hm0⟩, Nat.add_sub_cancel, e1, e4, ← e5, ← e6, ← h7, ← h6]
      have e8 : settledP (fallsP p) (ws1.take jN) = RdM.p ⟨n2, c2, some ⟨kb, ko, none⟩, kc2, k2, wA2, wc2, ws2, off2, falls2, fuse2⟩ := by rw [← HP1.out]; exact HP2.out.symm
      rw [e8]
      have e9 : tornP n2 k2 (qi, qs) = (qi, tq) := by
        unfold tornP
        simp only [List.getD_eq_getElem?_getD, h2, Option.getD_some]
        rw [HHF.out, HTQ.out]
      rw [e9])
    have HD4 := hide_ hb4
    clear hcq hb4
    refine wp_region_held_drew (S := (fun u => u.cell? ⟨W2.heap.size, 0, none⟩ = some (.int .i64 (qi : Int)) ∧ u.cell? ⟨W2.heap.size, 1, none⟩ = some (.string (strOf qs)) ∧ u.cell? ⟨w.heap.size, 0, none⟩ = some (.int .i64 (n2 : Int)) ∧ u.cell? ⟨kb, ko + qi, none⟩ = some (.string (strOf kq)))) (by kernel_rfl) (HF.out _ hd0) (fun hHeld => ?_)
    refine wpAnyH_take (i := 1) (oi := ⟨some 39, _, _, _, _, _⟩) (v := ?hv1) rfl (by kernel_rfl) (by kernel_rfl) (by kernel_rfl) (fun _ _ _ h => h) (Or.inl ⟨by rfl, ?hyy1⟩) (by assumption) ?hrest1
    case hyy1 => intro w hSw; (try dsimp only at hSw); obtain ⟨g1, g2, g3, g4⟩ := hSw; go_simp <;> with_reducible rfl
    simp only [Act.put, List.setIfInBounds_toArray, List.set_cons_zero, List.set_cons_succ]
    refine wpAnyH_take (i := 2) (oi := ⟨some 40, _, _, _, _, _⟩) (v := ?hv2) rfl (by kernel_rfl) (by kernel_rfl) (by kernel_rfl) (fun _ _ _ h => h) (Or.inl ⟨by rfl, ?hyy2⟩) (by assumption) ?hrest2
    case hyy2 => intro w hSw; (try dsimp only at hSw); obtain ⟨g1, g2, g3, g4⟩ := hSw; go_simp <;> with_reducible rfl
    simp only [Act.put, List.setIfInBounds_toArray, List.set_cons_zero, List.set_cons_succ]
    refine wpAnyH_take (i := 3) (oi := ⟨some 41, _, _, _, _, _⟩) (v := ?hv3) rfl (by kernel_rfl) (by kernel_rfl) (by kernel_rfl) (fun _ _ _ h => h) (Or.inl ⟨by rfl, ?hyy3⟩) (by assumption) ?hrest3
    case hyy3 => intro w hSw; (try dsimp only at hSw); obtain ⟨g1, g2, g3, g4⟩ := hSw; go_simp <;> with_reducible rfl
    simp only [Act.put, List.setIfInBounds_toArray, List.set_cons_zero, List.set_cons_succ]
    refine wpAnyH_take (i := 4) (oi := ⟨some 42, _, _, _, _, _⟩) (v := ?hv4) rfl (by kernel_rfl) (by kernel_rfl) (by kernel_rfl) (fun _ _ _ h => h) (Or.inl ⟨by rfl, ?hyy4⟩) (by assumption) ?hrest4
    case hyy4 => intro w hSw; (try dsimp only at hSw); obtain ⟨g1, g2, g3, g4⟩ := hSw; go_simp <;> with_reducible rfl
    simp only [Act.put, List.setIfInBounds_toArray, List.set_cons_zero, List.set_cons_succ]
    refine wpAnyH_take (i := 5) (oi := ⟨some 43, _, _, _, _, _⟩) (v := ?hv5) rfl (by kernel_rfl) (by kernel_rfl) (by kernel_rfl) (fun _ _ _ h => h) (Or.inl ⟨by rfl, ?hyy5⟩) (by assumption) ?hrest5
    case hyy5 => intro w hSw; (try dsimp only at hSw); obtain ⟨g1, g2, g3, g4⟩ := hSw; go_simp <;> with_reducible rfl
    simp only [Act.put, List.setIfInBounds_toArray, List.set_cons_zero, List.set_cons_succ]
    refine wpAnyH_take (i := 6) (oi := ⟨some 44, _, _, _, _, _⟩) (v := ?hv6) rfl (by kernel_rfl) (by kernel_rfl) (by kernel_rfl) (fun _ _ _ h => h) (Or.inl ⟨by rfl, ?hyy6⟩) (by assumption) ?hrest6
    case hyy6 => intro w hSw; (try dsimp only at hSw); obtain ⟨g1, g2, g3, g4⟩ := hSw; go_simp <;> with_reducible rfl
    simp only [Act.put, List.setIfInBounds_toArray, List.set_cons_zero, List.set_cons_succ]
    refine wpAnyH_take (i := 7) (oi := ⟨some 45, _, _, _, _, _⟩) (v := ?hv7) rfl (by kernel_rfl) (by kernel_rfl) (by kernel_rfl) (fun _ _ _ h => h) (Or.inl ⟨by rfl, ?hyy7⟩) (by assumption) ?hrest7
    case hyy7 => intro w hSw; (try dsimp only at hSw); obtain ⟨g1, g2, g3, g4⟩ := hSw; go_simp <;> with_reducible rfl
    simp only [Act.put, List.setIfInBounds_toArray, List.set_cons_zero, List.set_cons_succ]
    refine wpAnyH_take (i := 8) (oi := ⟨some 46, _, _, _, _, _⟩) (v := ?hv8) rfl (by kernel_rfl) (by kernel_rfl) (by kernel_rfl) (fun _ _ _ h => h) (Or.inl ⟨by rfl, ?hyy8⟩) (by assumption) ?hrest8
    case hyy8 => intro w hSw; (try dsimp only at hSw); obtain ⟨g1, g2, g3, g4⟩ := hSw; go_simp <;> with_reducible rfl
    simp only [Act.put, List.setIfInBounds_toArray, List.set_cons_zero, List.set_cons_succ]
    refine wpAnyH_take (i := 9) (oi := ⟨some 47, _, _, _, _, _⟩) (v := ?hv9) rfl (by kernel_rfl) (by kernel_rfl) (by kernel_rfl) (fun _ _ _ h => h) (Or.inl ⟨by rfl, ?hyy9⟩) (by assumption) ?hrest9
    case hyy9 => intro w hSw; (try dsimp only at hSw); obtain ⟨g1, g2, g3, g4⟩ := hSw; go_simp <;> with_reducible rfl
    simp only [Act.put, List.setIfInBounds_toArray, List.set_cons_zero, List.set_cons_succ]
    refine wpAnyH_take (i := 11) (oi := ⟨some 49, _, _, _, _, _⟩) (v := ?hv10) rfl (by kernel_rfl) (by kernel_rfl) (by kernel_rfl) (fun _ _ _ h => h) (Or.inl ⟨by rfl, ?hyy10⟩) (by assumption) ?hrest10
    case hyy10 => intro w hSw; (try dsimp only at hSw); obtain ⟨g1, g2, g3, g4⟩ := hSw; go_simp <;> with_reducible rfl
    simp only [Act.put, List.setIfInBounds_toArray, List.set_cons_zero, List.set_cons_succ]
    refine wpAnyH_take (i := 12) (oi := ⟨some 50, _, _, _, _, _⟩) (v := ?hv11) rfl (by kernel_rfl) (by kernel_rfl) (by kernel_rfl) (fun _ _ _ h => h) (Or.inl ⟨by rfl, ?hyy11⟩) (by assumption) ?hrest11
    case hyy11 => intro w hSw; (try dsimp only at hSw); obtain ⟨g1, g2, g3, g4⟩ := hSw; go_simp <;> with_reducible rfl
    simp only [Act.put, List.setIfInBounds_toArray, List.set_cons_zero, List.set_cons_succ]
    refine wpAnyH_take (i := 15) (oi := ⟨some 53, _, _, _, _, _⟩) (v := ?hv12) rfl (by kernel_rfl) (by kernel_rfl) (by kernel_rfl) (fun _ _ _ h => h) (Or.inl ⟨by rfl, ?hyy12⟩) (by assumption) ?hrest12
    case hyy12 => intro w hSw; (try dsimp only at hSw); obtain ⟨g1, g2, g3, g4⟩ := hSw; go_simp <;> with_reducible rfl
    simp only [Act.put, List.setIfInBounds_toArray, List.set_cons_zero, List.set_cons_succ]
    refine wpAnyH_take (i := 16) (oi := ⟨some 54, _, _, _, _, _⟩) (v := ?hv13) rfl (by kernel_rfl) (by kernel_rfl) (by kernel_rfl) (fun _ _ _ h => h) (Or.inl ⟨by rfl, ?hyy13⟩) (by assumption) ?hrest13
    case hyy13 => intro w hSw; (try dsimp only at hSw); obtain ⟨g1, g2, g3, g4⟩ := hSw; go_simp <;> with_reducible rfl
    simp only [Act.put, List.setIfInBounds_toArray, List.set_cons_zero, List.set_cons_succ]
    refine wpAnyH_take (i := 17) (oi := ⟨some 55, _, _, _, _, _⟩) (v := ?hv14) rfl (by kernel_rfl) (by kernel_rfl) (by kernel_rfl) (fun _ _ _ h => h) (Or.inl ⟨by rfl, ?hyy14⟩) (by assumption) ?hrest14
    case hyy14 => intro w hSw; (try dsimp only at hSw); obtain ⟨g1, g2, g3, g4⟩ := hSw; go_simp <;> with_reducible rfl
    simp only [Act.put, List.setIfInBounds_toArray, List.set_cons_zero, List.set_cons_succ]
    refine wpAnyH_ready (rs := [0, 10]) (by kernel_rfl) (by simp) ?_
    refine AllReadyH.cons rfl (fun K hK => ?_) (AllReadyH.cons rfl (fun K hK => ?_) AllReadyH.nil)
    · go_simp
      refine hK.out _ _ (HF.out _ hd0) (fun hHeld => ?_)
      clear hK K
      refine wpAnyH_ready (rs := [10]) (by kernel_rfl) (by simp) ?_
      refine AllReadyH.cons rfl (fun K hK => ?_) AllReadyH.nil
      go_simp
      refine hK.out _ _ (HF.out _ hd0) (fun hHeld => ?_)
      clear hK K
      refine wpAnyH_take (i := 13) (oi := ⟨some 51, _, _, _, _, _⟩) (v := ?hv15) rfl (by kernel_rfl) (by kernel_rfl) (by kernel_rfl) (fun _ _ _ h => h) (Or.inl ⟨by rfl, ?hyy15⟩) (by assumption) ?hrest15
      case hyy15 => intro w hSw; (try dsimp only at hSw); obtain ⟨g1, g2, g3, g4⟩ := hSw; go_simp <;> with_reducible rfl
      simp only [Act.put, List.setIfInBounds_toArray, List.set_cons_zero, List.set_cons_succ]
      refine wpAnyH_take (i := 14) (oi := ⟨some 52, _, _, _, _, _⟩) (v := ?hv16) rfl (by kernel_rfl) (by kernel_rfl) (by kernel_rfl) (fun _ _ _ h => h) (Or.inl ⟨by rfl, ?hyy16⟩) (by assumption) ?hrest16
      case hyy16 => intro w hSw; (try dsimp only at hSw); obtain ⟨g1, g2, g3, g4⟩ := hSw; go_simp <;> with_reducible rfl
      simp only [Act.put, List.setIfInBounds_toArray, List.set_cons_zero, List.set_cons_succ]
      refine wpAnyH_take (i := 18) (oi := ⟨some 56, _, _, _, _, _⟩) (v := ?hv17) rfl (by kernel_rfl) (by kernel_rfl) (by kernel_rfl) (fun _ _ _ h => h) (Or.inl ⟨by rfl, ?hyy17⟩) (by assumption) ?hrest17
      case hyy17 => intro w hSw; (try dsimp only at hSw); obtain ⟨g1, g2, g3, g4⟩ := hSw; go_simp <;> with_reducible rfl
      simp only [Act.put, List.setIfInBounds_toArray, List.set_cons_zero, List.set_cons_succ]
      refine wpAnyH_take (i := 19) (oi := ⟨some 57, _, _, _, _, _⟩) (v := ?hv18) rfl (by kernel_rfl) (by kernel_rfl) (by kernel_rfl) (fun _ _ _ h => h) (Or.inl ⟨by rfl, ?hyy18⟩) (by assumption) ?hrest18
      case hyy18 => intro w hSw; (try dsimp only at hSw); obtain ⟨g1, g2, g3, g4⟩ := hSw; go_simp <;> with_reducible rfl
      simp only [Act.put, List.setIfInBounds_toArray, List.set_cons_zero, List.set_cons_succ]
      refine wpAnyH_take (i := 20) (oi := ⟨some 58, _, _, _, _, _⟩) (v := ?hv19) rfl (by kernel_rfl) (by kernel_rfl) (by kernel_rfl) (fun _ _ _ h => h) (Or.inl ⟨by rfl, ?hyy19⟩) (by assumption) ?hrest19
      case hyy19 => intro w hSw; (try dsimp only at hSw); obtain ⟨g1, g2, g3, g4⟩ := hSw; go_simp <;> with_reducible rfl
      simp only [Act.put, List.setIfInBounds_toArray, List.set_cons_zero, List.set_cons_succ]
      refine wpAnyH_ready (rs := [21]) (by kernel_rfl) (by simp) ?_
      refine AllReadyH.cons rfl (fun K hK => ?_) AllReadyH.nil
      go_simp
      refine hK.out _ _ (HF.out _ HD4.out) (fun hHeld => ?_)
      clear hK K
      refine wpAnyH_ready (rs := [22]) (by kernel_rfl) (by simp) ?_
      refine AllReadyH.cons rfl (fun K hK => ?_) AllReadyH.nil
      go_simp
      go_wp2_with fail
      refine HST2.out.mono ?_
      rintro e w5 ⟨x5, rfl, hp5, hok5, hb5⟩
      obtain ⟨n5, c5, kA5, kc5, k5, wA5, wc5, ws5, off5, falls5, fuse5⟩ := x5
      simp only [RdM.v, RdM.cs]
      have HX5 := hide_ (HX4.out.below hb5)
      have HA5 := hide_ (HA4.out.below hb5)
      have hn5 : n5 = n2 := congrArg RP.n hp5
      have HH5 := hide_ (And.intro hp5 hok5)
      refine hK.out _ _ (HF.out _ (HD4.out.trans (hb5.mono HD4.out.size))) (fun hHeld => ?_)
      clear hK K
      refine wpAnyH_ready (rs := [23]) (by kernel_rfl) (by simp) ?_
      refine AllReadyH.cons rfl (fun K hK => ?_) AllReadyH.nil
      refine step_store12 (by rfl) _ _ (by rfl) (by rfl) (by rfl) (by rfl) (by simp [Value.oneCell']) HX5.out (by rfl) ?_ (by rfl)
      intro W6 HB6 HG6
      refine hK.out _ _ (hS6 w5 W6 _ (HD4.out.trans (hb5.mono HD4.out.size)) HG6.out HB6.out (by rw [hn5]; rfl)) (fun hHeld => ?_)
      clear hK K
      refine wpAnyH_done (by kernel_rfl) ?_ _
      have HA6 := hide_ ((HA5.out.put (y := ⟨n5, c5, kA5, kc5, k5, wA5, wc5, ws5, off5, falls5, fuse5⟩) HH5.out.2 HG6.out HB6.out))
      have HBS := hide_ (HBQ5.out _ HH5.out.1)
      clear hcx hck hc1 hc2 hsq hsk hdiv hwf hbig htorn hwr hS6 hHeld hd0 hb5 hn5
      have HE2 := hide_ (own_empty9 (w := W6) (base := W6.heap.size) (s := 2) 78 (Nat.le_refl _))
      have HA3 := hide_ (HA6.out.below (show Below W6.heap.size W6 (W6.alloc (.cells #[] 78)) from (Below.refl _ _).alloc (Nat.le_refl _) _))
      have hcx := HA3.out.n.cell
      have hfx := HA3.out.n.free9
      simp only [RdM.cs] at hcx
      go_upto_region 12 with fail
      obtain ⟨W4, hW4⟩ : ∃ W4, (((W6.alloc (.cells #[] 78)).setCell ⟨w.heap.size, 3, none⟩ (.slice (some ⟨W6.heap.size, 0, none⟩) 0 0)).setCell ⟨w.heap.size, 4, none⟩ (.bool false)).setCell ⟨w.heap.size, 6, none⟩ (.int .i64 (-1)) = W4 := ⟨_, rfl⟩
      rw [hW4]
      have hG4 : (W6.alloc (.cells #[] 78)).grownBy W4 (some w.heap.size) := hW4 ▸ grown_set (grown_set (grown_cell9 _ w.heap.size 3 _) 4 _) 6 _
      have hn4 : BoxAt W4 w.heap.size #[.int .i64 (n5 : Int), .int .i64 (c5 : Int), .slice kA5 k5.length kc5, .slice (some ⟨W6.heap.size, 0, none⟩) 0 0, .bool false, .int .u64 falls5, .int .i64 (-1)] 34 := by
        have h1 := ((HA3.out.n.set9 3 (.slice (some ⟨W6.heap.size, 0, none⟩) 0 0)).set9 4 (.bool false)).set9 6 (.int .i64 (-1))
        rw [hW4] at h1
        simpa [RdM.cs] using h1
      have HN4 := hide_ hn4
      have hz4 := HA3.out.z.more12 hG4 (by omega)
      have HZ4 := hide_ hz4
      have HK4 := hide_ (own_other9 HA3.out.o.k (HA3.out.n.apart9 (by decide) HA3.out.o.k) hG4)
      have HE4 := hide_ (own_other9 HE2.out (HA3.out.n.apart9 (by decide) HE2.out) hG4)
      have HB4 := hide_ (HA3.out.b.grown hG4 HA3.out.b.size (fun k hk => by injection hk with hk; omega))
      have HS4 := hide_ (Nat.lt_of_lt_of_le HA3.out.s hG4.size)
      clear hG4 hn4 hz4 hcx hfx hW4
      have hcx := HN4.out.cell
      have hcz := HZ4.out.cell
      have hfz := HZ4.out.free9
      go_wp2
      clear hcx hcz hfz
      have HE := hide_ (HZ4.out.put7 (.int .i64 (n5 : Int)) (.int .i64 (c5 : Int)) (.slice kA5 k5.length kc5) (.slice (some ⟨W6.heap.size, 0, none⟩) 0 0) (.bool false) (.int .u64 falls5) (.int .i64 (-1)))
      have hq := HE.out.cell
      have q0 := hq 0
      have q1 := hq 1
      have q2 := hq 2
      have q3 := hq 3
      have q4 := hq 4
      have q5 := hq 5
      have q6 := hq 6
      simp only [List.getElem?_toArray, List.getElem?_cons_zero, List.getElem?_cons_succ] at q0 q1 q2 q3 q4 q5 q6
      clear hq
      refine bodyPost_ret (v := .agg #[.int .i64 (n5 : Int), .int .i64 (c5 : Int), .slice kA5 k5.length kc5, .slice (some ⟨W6.heap.size, 0, none⟩) 0 0, .bool false, .int .u64 falls5, .int .i64 (-1)]) (by simp [results, Try.results16, go_sem, q0, q1, q2, q3, q4, q5, q6]) rfl ?_
      have hs4 := HS4.out
      have hG := grown_put7 W4 (w.heap.size + 1) (.int .i64 (n5 : Int)) (.int .i64 (c5 : Int)) (.slice kA5 k5.length kc5) (.slice (some ⟨W6.heap.size, 0, none⟩) 0 0) (.bool false) (.int .u64 falls5) (.int .i64 (-1))
      have hW := HB4.out.grown hG (by omega) (fun k hk => by injection hk with hk; omega)
      have e1 := own_other9 HK4.out (HZ4.out.apart9 (by decide) HK4.out) hG
      have e2 := own_other9 HE4.out (HZ4.out.apart9 (by decide) HE4.out) hG
      have hsz := HA3.out.o.sz
      refine ⟨⟨n5, c5, kA5, kc5, k5, some ⟨W6.heap.size, 0, none⟩, 0, [], false, falls5, -1⟩, rfl, ?_, ⟨e1, own_mono e2 (Nat.zero_le _), ⟨show (-1 : Int) ≤ 9223372036854775807 by omega, show (-1 : Int) ≤ -1 by omega⟩, ⟨hsz.1, hsz.2.1, hsz.2.2.1, hsz.2.2.2.1, Nat.zero_le _⟩, HA3.out.o.kl, fun q hq => by cases hq⟩, hW⟩
      exact back_end12 HBS.out
    · go_simp
      refine hK.out _ _ (HF.out _ hd0) (fun hHeld => ?_)
      clear hK K
      refine wpAnyH_take (i := 13) (oi := ⟨some 51, _, _, _, _, _⟩) (v := ?hv20) rfl (by kernel_rfl) (by kernel_rfl) (by kernel_rfl) (fun _ _ _ h => h) (Or.inl ⟨by rfl, ?hyy20⟩) (by assumption) ?hrest20
      case hyy20 => intro w hSw; (try dsimp only at hSw); obtain ⟨g1, g2, g3, g4⟩ := hSw; go_simp <;> with_reducible rfl
      simp only [Act.put, List.setIfInBounds_toArray, List.set_cons_zero, List.set_cons_succ]
      refine wpAnyH_take (i := 14) (oi := ⟨some 52, _, _, _, _, _⟩) (v := ?hv21) rfl (by kernel_rfl) (by kernel_rfl) (by kernel_rfl) (fun _ _ _ h => h) (Or.inl ⟨by rfl, ?hyy21⟩) (by assumption) ?hrest21
      case hyy21 => intro w hSw; (try dsimp only at hSw); obtain ⟨g1, g2, g3, g4⟩ := hSw; go_simp <;> with_reducible rfl
      simp only [Act.put, List.setIfInBounds_toArray, List.set_cons_zero, List.set_cons_succ]
      refine wpAnyH_take (i := 18) (oi := ⟨some 56, _, _, _, _, _⟩) (v := ?hv22) rfl (by kernel_rfl) (by kernel_rfl) (by kernel_rfl) (fun _ _ _ h => h) (Or.inl ⟨by rfl, ?hyy22⟩) (by assumption) ?hrest22
      case hyy22 => intro w hSw; (try dsimp only at hSw); obtain ⟨g1, g2, g3, g4⟩ := hSw; go_simp <;> with_reducible rfl
      simp only [Act.put, List.setIfInBounds_toArray, List.set_cons_zero, List.set_cons_succ]
      refine wpAnyH_take (i := 19) (oi := ⟨some 57, _, _, _, _, _⟩) (v := ?hv23) rfl (by kernel_rfl) (by kernel_rfl) (by kernel_rfl) (fun _ _ _ h => h) (Or.inl ⟨by rfl, ?hyy23⟩) (by assumption) ?hrest23
      case hyy23 => intro w hSw; (try dsimp only at hSw); obtain ⟨g1, g2, g3, g4⟩ := hSw; go_simp <;> with_reducible rfl
      simp only [Act.put, List.setIfInBounds_toArray, List.set_cons_zero, List.set_cons_succ]
      refine wpAnyH_take (i := 20) (oi := ⟨some 58, _, _, _, _, _⟩) (v := ?hv24) rfl (by kernel_rfl) (by kernel_rfl) (by kernel_rfl) (fun _ _ _ h => h) (Or.inl ⟨by rfl, ?hyy24⟩) (by assumption) ?hrest24
      case hyy24 => intro w hSw; (try dsimp only at hSw); obtain ⟨g1, g2, g3, g4⟩ := hSw; go_simp <;> with_reducible rfl
      simp only [Act.put, List.setIfInBounds_toArray, List.set_cons_zero, List.set_cons_succ]
      refine wpAnyH_ready (rs := [0, 21]) (by kernel_rfl) (by simp) ?_
      refine AllReadyH.cons rfl (fun K hK => ?_) (AllReadyH.cons rfl (fun K hK => ?_) AllReadyH.nil)
      · go_simp
        refine hK.out _ _ (HF.out _ hd0) (fun hHeld => ?_)
        clear hK K
        refine wpAnyH_ready (rs := [21]) (by kernel_rfl) (by simp) ?_
        refine AllReadyH.cons rfl (fun K hK => ?_) AllReadyH.nil
        go_simp
        refine hK.out _ _ (HF.out _ HD4.out) (fun hHeld => ?_)
        clear hK K
        refine wpAnyH_ready (rs := [22]) (by kernel_rfl) (by simp) ?_
        refine AllReadyH.cons rfl (fun K hK => ?_) AllReadyH.nil
        go_simp
        go_wp2_with fail
        refine HST2.out.mono ?_
        rintro e w5 ⟨x5, rfl, hp5, hok5, hb5⟩
        obtain ⟨n5, c5, kA5, kc5, k5, wA5, wc5, ws5, off5, falls5, fuse5⟩ := x5
        simp only [RdM.v, RdM.cs]
        have HX5 := hide_ (HX4.out.below hb5)
        have HA5 := hide_ (HA4.out.below hb5)
        have hn5 : n5 = n2 := congrArg RP.n hp5
        have HH5 := hide_ (And.intro hp5 hok5)
        refine hK.out _ _ (HF.out _ (HD4.out.trans (hb5.mono HD4.out.size))) (fun hHeld => ?_)
        clear hK K
        refine wpAnyH_ready (rs := [23]) (by kernel_rfl) (by simp) ?_
        refine AllReadyH.cons rfl (fun K hK => ?_) AllReadyH.nil
        refine step_store12 (by rfl) _ _ (by rfl) (by rfl) (by rfl) (by rfl) (by simp [Value.oneCell']) HX5.out (by rfl) ?_ (by rfl)
        intro W6 HB6 HG6
        refine hK.out _ _ (hS6 w5 W6 _ (HD4.out.trans (hb5.mono HD4.out.size)) HG6.out HB6.out (by rw [hn5]; rfl)) (fun hHeld => ?_)
        clear hK K
        refine wpAnyH_done (by kernel_rfl) ?_ _
        have HA6 := hide_ ((HA5.out.put (y := ⟨n5, c5, kA5, kc5, k5, wA5, wc5, ws5, off5, falls5, fuse5⟩) HH5.out.2 HG6.out HB6.out))
        have HBS := hide_ (HBQ5.out _ HH5.out.1)
        clear hcx hck hc1 hc2 hsq hsk hdiv hwf hbig htorn hwr hS6 hHeld hd0 hb5 hn5
        have HE2 := hide_ (own_empty9 (w := W6) (base := W6.heap.size) (s := 2) 78 (Nat.le_refl _))
        have HA3 := hide_ (HA6.out.below (show Below W6.heap.size W6 (W6.alloc (.cells #[] 78)) from (Below.refl _ _).alloc (Nat.le_refl _) _))
        have hcx := HA3.out.n.cell
        have hfx := HA3.out.n.free9
        simp only [RdM.cs] at hcx
        go_upto_region 12 with fail
        obtain ⟨W4, hW4⟩ : ∃ W4, (((W6.alloc (.cells #[] 78)).setCell ⟨w.heap.size, 3, none⟩ (.slice (some ⟨W6.heap.size, 0, none⟩) 0 0)).setCell ⟨w.heap.size, 4, none⟩ (.bool false)).setCell ⟨w.heap.size, 6, none⟩ (.int .i64 (-1)) = W4 := ⟨_, rfl⟩
        rw [hW4]
        have hG4 : (W6.alloc (.cells #[] 78)).grownBy W4 (some w.heap.size) := hW4 ▸ grown_set (grown_set (grown_cell9 _ w.heap.size 3 _) 4 _) 6 _
        have hn4 : BoxAt W4 w.heap.size #[.int .i64 (n5 : Int), .int .i64 (c5 : Int), .slice kA5 k5.length kc5, .slice (some ⟨W6.heap.size, 0, none⟩) 0 0, .bool false, .int .u64 falls5, .int .i64 (-1)] 34 := by
          have h1 := ((HA3.out.n.set9 3 (.slice (some ⟨W6.heap.size, 0, none⟩) 0 0)).set9 4 (.bool false)).set9 6 (.int .i64 (-1))
          rw [hW4] at h1
          simpa [RdM.cs] using h1
        have HN4 := hide_ hn4
        have hz4 := HA3.out.z.more12 hG4 (by omega)
        have HZ4 := hide_ hz4
        have HK4 := hide_ (own_other9 HA3.out.o.k (HA3.out.n.apart9 (by decide) HA3.out.o.k) hG4)
        have HE4 := hide_ (own_other9 HE2.out (HA3.out.n.apart9 (by decide) HE2.out) hG4)
        have HB4 := hide_ (HA3.out.b.grown hG4 HA3.out.b.size (fun k hk => by injection hk with hk; omega))
        have HS4 := hide_ (Nat.lt_of_lt_of_le HA3.out.s hG4.size)
        clear hG4 hn4 hz4 hcx hfx hW4
        have hcx := HN4.out.cell
        have hcz := HZ4.out.cell
        have hfz := HZ4.out.free9
        go_wp2
        clear hcx hcz hfz
        have HE := hide_ (HZ4.out.put7 (.int .i64 (n5 : Int)) (.int .i64 (c5 : Int)) (.slice kA5 k5.length kc5) (.slice (some ⟨W6.heap.size, 0, none⟩) 0 0) (.bool false) (.int .u64 falls5) (.int .i64 (-1)))
        have hq := HE.out.cell
        have q0 := hq 0
        have q1 := hq 1
        have q2 := hq 2
        have q3 := hq 3
        have q4 := hq 4
        have q5 := hq 5
        have q6 := hq 6
        simp only [List.getElem?_toArray, List.getElem?_cons_zero, List.getElem?_cons_succ] at q0 q1 q2 q3 q4 q5 q6
        clear hq
        refine bodyPost_ret (v := .agg #[.int .i64 (n5 : Int), .int .i64 (c5 : Int), .slice kA5 k5.length kc5, .slice (some ⟨W6.heap.size, 0, none⟩) 0 0, .bool false, .int .u64 falls5, .int .i64 (-1)]) (by simp [results, Try.results16, go_sem, q0, q1, q2, q3, q4, q5, q6]) rfl ?_
        have hs4 := HS4.out
        have hG := grown_put7 W4 (w.heap.size + 1) (.int .i64 (n5 : Int)) (.int .i64 (c5 : Int)) (.slice kA5 k5.length kc5) (.slice (some ⟨W6.heap.size, 0, none⟩) 0 0) (.bool false) (.int .u64 falls5) (.int .i64 (-1))
        have hW := HB4.out.grown hG (by omega) (fun k hk => by injection hk with hk; omega)
        have e1 := own_other9 HK4.out (HZ4.out.apart9 (by decide) HK4.out) hG
        have e2 := own_other9 HE4.out (HZ4.out.apart9 (by decide) HE4.out) hG
        have hsz := HA3.out.o.sz
        refine ⟨⟨n5, c5, kA5, kc5, k5, some ⟨W6.heap.size, 0, none⟩, 0, [], false, falls5, -1⟩, rfl, ?_, ⟨e1, own_mono e2 (Nat.zero_le _), ⟨show (-1 : Int) ≤ 9223372036854775807 by omega, show (-1 : Int) ≤ -1 by omega⟩, ⟨hsz.1, hsz.2.1, hsz.2.2.1, hsz.2.2.2.1, Nat.zero_le _⟩, HA3.out.o.kl, fun q hq => by cases hq⟩, hW⟩
        exact back_end12 HBS.out
      · go_simp
        refine hK.out _ _ (HF.out _ HD4.out) (fun hHeld => ?_)
        clear hK K
        have hcx4 := HX4.out.cell
        refine wpAnyH_ready (rs := [0]) (by kernel_rfl) (by simp) ?_
        refine AllReadyH.cons rfl (fun K hK => ?_) AllReadyH.nil
        go_simp
        refine hK.out _ _ (HF.out _ HD4.out) (fun hHeld => ?_)
        clear hK K
        clear hcx4
        refine wpAnyH_ready (rs := [22]) (by kernel_rfl) (by simp) ?_
        refine AllReadyH.cons rfl (fun K hK => ?_) AllReadyH.nil
        go_simp
        go_wp2_with fail
        refine HST2.out.mono ?_
        rintro e w5 ⟨x5, rfl, hp5, hok5, hb5⟩
        obtain ⟨n5, c5, kA5, kc5, k5, wA5, wc5, ws5, off5, falls5, fuse5⟩ := x5
        simp only [RdM.v, RdM.cs]
        have HX5 := hide_ (HX4.out.below hb5)
        have HA5 := hide_ (HA4.out.below hb5)
        have hn5 : n5 = n2 := congrArg RP.n hp5
        have HH5 := hide_ (And.intro hp5 hok5)
        refine hK.out _ _ (HF.out _ (HD4.out.trans (hb5.mono HD4.out.size))) (fun hHeld => ?_)
        clear hK K
        refine wpAnyH_ready (rs := [23]) (by kernel_rfl) (by simp) ?_
        refine AllReadyH.cons rfl (fun K hK => ?_) AllReadyH.nil
        refine step_store12 (by rfl) _ _ (by rfl) (by rfl) (by rfl) (by rfl) (by simp [Value.oneCell']) HX5.out (by rfl) ?_ (by rfl)
        intro W6 HB6 HG6
        refine hK.out _ _ (hS6 w5 W6 _ (HD4.out.trans (hb5.mono HD4.out.size)) HG6.out HB6.out (by rw [hn5]; rfl)) (fun hHeld => ?_)
        clear hK K
        refine wpAnyH_done (by kernel_rfl) ?_ _
        have HA6 := hide_ ((HA5.out.put (y := ⟨n5, c5, kA5, kc5, k5, wA5, wc5, ws5, off5, falls5, fuse5⟩) HH5.out.2 HG6.out HB6.out))
        have HBS := hide_ (HBQ5.out _ HH5.out.1)
        clear hcx hck hc1 hc2 hsq hsk hdiv hwf hbig htorn hwr hS6 hHeld hd0 hb5 hn5
        have HE2 := hide_ (own_empty9 (w := W6) (base := W6.heap.size) (s := 2) 78 (Nat.le_refl _))
        have HA3 := hide_ (HA6.out.below (show Below W6.heap.size W6 (W6.alloc (.cells #[] 78)) from (Below.refl _ _).alloc (Nat.le_refl _) _))
        have hcx := HA3.out.n.cell
        have hfx := HA3.out.n.free9
        simp only [RdM.cs] at hcx
        go_upto_region 12 with fail
        obtain ⟨W4, hW4⟩ : ∃ W4, (((W6.alloc (.cells #[] 78)).setCell ⟨w.heap.size, 3, none⟩ (.slice (some ⟨W6.heap.size, 0, none⟩) 0 0)).setCell ⟨w.heap.size, 4, none⟩ (.bool false)).setCell ⟨w.heap.size, 6, none⟩ (.int .i64 (-1)) = W4 := ⟨_, rfl⟩
        rw [hW4]
        have hG4 : (W6.alloc (.cells #[] 78)).grownBy W4 (some w.heap.size) := hW4 ▸ grown_set (grown_set (grown_cell9 _ w.heap.size 3 _) 4 _) 6 _
        have hn4 : BoxAt W4 w.heap.size #[.int .i64 (n5 : Int), .int .i64 (c5 : Int), .slice kA5 k5.length kc5, .slice (some ⟨W6.heap.size, 0, none⟩) 0 0, .bool false, .int .u64 falls5, .int .i64 (-1)] 34 := by
          have h1 := ((HA3.out.n.set9 3 (.slice (some ⟨W6.heap.size, 0, none⟩) 0 0)).set9 4 (.bool false)).set9 6 (.int .i64 (-1))
          rw [hW4] at h1
          simpa [RdM.cs] using h1
        have HN4 := hide_ hn4
        have hz4 := HA3.out.z.more12 hG4 (by omega)
        have HZ4 := hide_ hz4
        have HK4 := hide_ (own_other9 HA3.out.o.k (HA3.out.n.apart9 (by decide) HA3.out.o.k) hG4)
        have HE4 := hide_ (own_other9 HE2.out (HA3.out.n.apart9 (by decide) HE2.out) hG4)
        have HB4 := hide_ (HA3.out.b.grown hG4 HA3.out.b.size (fun k hk => by injection hk with hk; omega))
        have HS4 := hide_ (Nat.lt_of_lt_of_le HA3.out.s hG4.size)
        clear hG4 hn4 hz4 hcx hfx hW4
        have hcx := HN4.out.cell
        have hcz := HZ4.out.cell
        have hfz := HZ4.out.free9
        go_wp2
        clear hcx hcz hfz
        have HE := hide_ (HZ4.out.put7 (.int .i64 (n5 : Int)) (.int .i64 (c5 : Int)) (.slice kA5 k5.length kc5) (.slice (some ⟨W6.heap.size, 0, none⟩) 0 0) (.bool false) (.int .u64 falls5) (.int .i64 (-1)))
        have hq := HE.out.cell
        have q0 := hq 0
        have q1 := hq 1
        have q2 := hq 2
        have q3 := hq 3
        have q4 := hq 4
        have q5 := hq 5
        have q6 := hq 6
        simp only [List.getElem?_toArray, List.getElem?_cons_zero, List.getElem?_cons_succ] at q0 q1 q2 q3 q4 q5 q6
        clear hq
        refine bodyPost_ret (v := .agg #[.int .i64 (n5 : Int), .int .i64 (c5 : Int), .slice kA5 k5.length kc5, .slice (some ⟨W6.heap.size, 0, none⟩) 0 0, .bool false, .int .u64 falls5, .int .i64 (-1)]) (by simp [results, Try.results16, go_sem, q0, q1, q2, q3, q4, q5, q6]) rfl ?_
        have hs4 := HS4.out
        have hG := grown_put7 W4 (w.heap.size + 1) (.int .i64 (n5 : Int)) (.int .i64 (c5 : Int)) (.slice kA5 k5.length kc5) (.slice (some ⟨W6.heap.size, 0, none⟩) 0 0) (.bool false) (.int .u64 falls5) (.int .i64 (-1))
        have hW := HB4.out.grown hG (by omega) (fun k hk => by injection hk with hk; omega)
        have e1 := own_other9 HK4.out (HZ4.out.apart9 (by decide) HK4.out) hG
        have e2 := own_other9 HE4.out (HZ4.out.apart9 (by decide) HE4.out) hG
        have hsz := HA3.out.o.sz
        refine ⟨⟨n5, c5, kA5, kc5, k5, some ⟨W6.heap.size, 0, none⟩, 0, [], false, falls5, -1⟩, rfl, ?_, ⟨e1, own_mono e2 (Nat.zero_le _), ⟨show (-1 : Int) ≤ 9223372036854775807 by omega, show (-1 : Int) ≤ -1 by omega⟩, ⟨hsz.1, hsz.2.1, hsz.2.2.1, hsz.2.2.2.1, Nat.zero_le _⟩, HA3.out.o.kl, fun q hq => by cases hq⟩, hW⟩
        exact back_end12 HBS.out
end Go.Proofs.Ytcpoppfifadbiaa
