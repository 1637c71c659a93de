/-
  scrutineerlaw12.SectorPlays answers true for every input and leaves its input as it was; no condition.
-/
import Derived.Test.YtcpoppfifadbiaaRd12l
import Derived.BigQuiet
import Derived.Test.YtcpoppfifadbiaaPair12
namespace Go.Proofs.Ytcpoppfifadbiaa.sectorPlays
open Go.ChangeShapes Go.WideShapes Go.ChangeAt Go.RowKit

theorem walk_long (n c : Int) (s : Sl StM) (w : World) (hs : stepsOk w w.heap.size s) (hg : greatD n c s.l = true) :
    Calls Try.prog 3 #[.int .i64 n, .int .i64 c, s.v] w fun e w' => e = .returned (.bool true) ∧ Below w.heap.size w w' := by
  have HG := hide_ (great12_any n c s w.heap.size w hs)
  rw [hg] at HG
  obtain ⟨A, cp, l⟩ := s
  simp only [Sl.v] at HG ⊢
  obtain ⟨m, hm⟩ : ∃ m, l.length = m := ⟨_, rfl⟩
  rw [hm] at HG ⊢
  clear hs hg hm
  go_enter Try.func3, Try.ntmps3
  go_wp2_with (first | (go_at_call 5; refine HG.out.mono ?_; rintro e wg ⟨rfl, rfl⟩) | (go_at_call 6; refine (awake12_any _).mono ?_; rintro e wz ⟨rfl, hbz⟩))
  go_ret
  exact ⟨rfl, hbz⟩

/-- behind k steps -/
structure InvQ (w : World) (bc n c g9 k : Nat) (L : Lay) (D : Dk) (x : RdM) (wr : World) : Prop where
  e : L.b = bc
  d : Solo w L D wr
  ok : RdM.ok wr x
  p : x.p = refOf D
  m : BoxAt wr g9 x.cs 34
  n : D.n = n
  c : D.c = c
  wl : D.waits.length ≤ k
  h : ¬ L.has g9
  g : w.heap.size ≤ g9
theorem InvQ.below {w wr w' : World} {bc n c g9 k : Nat} {L : Lay} {D : Dk} {x : RdM} (h : InvQ w bc n c g9 k L D x wr) (hb : Below wr.heap.size wr w') : InvQ w bc n c g9 k L D x w' := ⟨h.e, h.d.below hb, h.ok.below hb, h.p, h.m.below hb, h.n, h.c, h.wl, h.h, h.g⟩
/-- behind a step of both: the document's new disk isn't yet in its box -/
structure AftQ (w : World) (bc n c g9 k : Nat) (L : Lay) (D : Dk) (x y : RdM) (wr : World) : Prop where
  e : L.b = bc
  d : Solo w L D wr
  ok : RdM.ok wr y
  p : y.p = refOf D
  m : BoxAt wr g9 x.cs 34
  n : D.n = n
  c : D.c = c
  wl : D.waits.length ≤ k
  h : ¬ L.has g9
  g : w.heap.size ≤ g9
section
variable {w wr W w4 w' : World} {bc n c g9 g k : Nat} {L L' : Lay} {D D' : Dk} {x y : RdM} {s : StM}
theorem AftQ.below (h : AftQ w bc n c g9 k L D x y wr) (hb : Below wr.heap.size wr w') : AftQ w bc n c g9 k L D x y w' := ⟨h.e, h.d.below hb, h.ok.below hb, h.p, h.m.below hb, h.n, h.c, h.wl, h.h, h.g⟩
theorem InvQ.after (h : InvQ w bc n c g9 k L D x wr) (hW : Below wr.heap.size wr W) (hd : Does L W w4 (stepD D s)) (hp : y.p = refOf (stepD D s)) (ho : RdM.ok w4 y) : ∃ L', AftQ w bc n c g9 (k + 1) L' (stepD D s) x y w4 ∧ Chg L.has W w4 ∧ ∀ g, L'.has g → L.has g ∨ W.heap.size ≤ g := by
  obtain ⟨L', eb, hd', hc, hs⟩ := (h.d.below hW).does hd
  have hg : g9 < wr.heap.size := h.m.lt
  have := h.wl
  have := stepD_waits D s
  refine ⟨L', ⟨eb.trans h.e, hd', ho, hp, box_chg (h.m.below hW) hc h.h, (stepD_same D s).1.trans h.n, (stepD_same D s).2.trans h.c, by omega, fun e => ?_, h.g⟩, hc, hs⟩
  rcases hs _ e with e | e
  · exact h.h e
  · have := hW.size
    omega
/-- the new disk in a box of its own -/
structure RdyQ (w : World) (bc n c g9 g k : Nat) (L : Lay) (D : Dk) (x y : RdM) (wr : World) : Prop where
  a : AftQ w bc n c g9 k L D x y wr
  z : BoxAt wr g y.cs 34
  h : ¬ L.has g
  ne : g ≠ g9
  g : w.heap.size ≤ g
theorem RdyQ.below (h : RdyQ w bc n c g9 g k L D x y wr) (hb : Below wr.heap.size wr w') : RdyQ w bc n c g9 g k L D x y w' := ⟨h.a.below hb, h.z.below hb, h.h, h.ne, h.g⟩
theorem AftQ.fresh (h : AftQ w bc n c g9 k L D x y wr) : RdyQ w bc n c g9 wr.heap.size k L D x y (wr.alloc (.cells y.cs 34)) :=
  ⟨h.below ((Below.refl _ _).alloc (Nat.le_refl _) _), BoxAt.new _ _ _, fun e => by have := h.d.d.lt e; omega, fun e => by have := h.m.lt; omega, h.d.b.size⟩
theorem AftQ.filled {cs : Array Value} (h : AftQ w bc n c g9 k L D x y wr) (hz : BoxAt wr g cs 34) (hn : ¬ L.has g) (hne : g ≠ g9) (hg : w.heap.size ≤ g) (hz' : BoxAt w' g y.cs 34) (hw : wr.grownBy w' (some g)) : RdyQ w bc n c g9 g k L D x y w' := by
  have hd : Solo w L D w' := ⟨h.d.d.stay fun q hq => hw.block q (h.d.d.lt hq) (fun e => by injection e with e; subst e; exact hn hq), h.d.b.trans ((Below.refl _ _).grown hw h.d.b.size fun q e => by injection e with e; subst e; exact hg), h.d.h⟩
  exact ⟨⟨h.e, hd, h.ok.grown hz hw, h.p, h.m.more12 hw hne, h.n, h.c, h.wl, h.h, h.g⟩, hz', hn, hne, hg⟩
/-- it is put into the document's box -/
theorem AftQ.put (h : AftQ w bc n c g9 k L D x y wr) (hz' : BoxAt w' g9 y.cs 34) (hw : wr.grownBy w' (some g9)) : InvQ w bc n c g9 k L D y w' := by
  have hd : Solo w L D w' := ⟨h.d.d.stay fun q hq => hw.block q (h.d.d.lt hq) (fun e => by injection e with e; subst e; exact h.h hq), h.d.b.trans ((Below.refl _ _).grown hw h.d.b.size fun q e => by injection e with e; subst e; exact h.g), h.d.h⟩
  exact ⟨h.e, hd, h.ok.grown h.m hw, h.p, hz', h.n, h.c, h.wl, h.h, h.g⟩
theorem InvQ.back (h : InvQ w bc n c g9 k L D x wr) (hc : Chg L.has wr w4) (hs : ∀ g, L'.has g → L.has g ∨ wr.heap.size ≤ g) : RdM.ok w4 x ∧ BoxAt w4 g9 x.cs 34 ∧ ¬ L'.has g9 := by
  refine ⟨h.ok.chg h.d.d hc, box_chg h.m hc h.h, fun e => ?_⟩
  rcases hs _ e with e | e
  · exact h.h e
  · have := h.m.lt
    omega
theorem InvQ.kept (h : InvQ w bc n c g9 k L D x wr) {j : Nat} (hj : j < c) : ∃ b o, x.kA = some ⟨b, o, none⟩ ∧ b < wr.heap.size ∧ wr.cell? ⟨b, o + j, none⟩ = some (.string (strOf (D.kept j))) ∧ x.k.length = c := by
  have hp : x.k = (List.range D.c).map D.kept := congrArg RP.k h.p
  have hl : x.k.length = c := by rw [hp]; simp [h.c]
  obtain ⟨b, o, e, hb, hc⟩ := (Sees.ownRow9 h.ok.k).flat (by rw [strC_length]; omega)
  refine ⟨b, o, e, hb, hc j _ ?_, hl⟩
  unfold strC
  have hD := h.c
  rw [hp, List.getElem?_map, List.getElem?_map, List.getElem?_range (by omega)]
  rfl
/-- order A: the box was made ahead of the call -/
theorem InvQ.after_a {cs : Array Value} (h : InvQ w bc n c g9 k L D x wr) (hd : Does L (wr.alloc (.cells cs 34)).drew w4 (stepD D s)) (hp : y.p = refOf (stepD D s)) (ho : RdM.ok w4 y) : ∃ L', AftQ w bc n c g9 (k + 1) L' (stepD D s) x y w4 ∧ BoxAt w4 wr.heap.size cs 34 ∧ ¬ L'.has wr.heap.size ∧ wr.heap.size ≠ g9 ∧ w.heap.size ≤ wr.heap.size := by
  have hb : Below wr.heap.size wr (wr.alloc (.cells cs 34)).drew := ((Below.refl _ _).alloc (Nat.le_refl _) _).drew
  obtain ⟨L', h1, hc, hs⟩ := h.after hb hd hp ho
  have hn : ¬ L.has wr.heap.size := fun e => by have := h.d.d.lt e; omega
  refine ⟨L', h1, box_chg ((BoxAt.new wr cs 34).below ((Below.refl _ _).drew)) hc hn, fun e => ?_, fun e => by have := h.m.lt; omega, h.d.b.size⟩
  rcases hs _ e with e | e
  · exact hn e
  · simp at e
    omega
end

set_option maxRecDepth 100000 in
set_option maxHeartbeats 1600000 in
theorem walk (n c : Nat) (A : Option Addr) (cp : Nat) (l : List StM) (m : Nat) (w : World) (hs : stepsOk w w.heap.size ⟨A, cp, l⟩) (hm : l.length = m) (hg : greatD n c l = false) :
    Calls Try.prog 3 #[.int .i64 (n : Int), .int .i64 (c : Int), .slice A m cp] w fun e w' => e = .returned (.bool true) ∧ Below w.heap.size w w' := by
  have hgr := of_decide_eq_false hg
  have h1 : 64 ≤ n := by have := mt Or.inl hgr; omega
  have h2 : n ≤ 512 := by have := mt (fun h => Or.inr (Or.inl h)) hgr; omega
  have h3 : 1 ≤ c := by have := mt (fun h => Or.inr (Or.inr (Or.inl h))) hgr; omega
  have h4 : c ≤ 40 := by have := mt (fun h => Or.inr (Or.inr (Or.inr (Or.inl h)))) hgr; omega
  have h5 : m ≤ 60 := by have := mt (fun h => Or.inr (Or.inr (Or.inr (Or.inr (Or.inl h))))) hgr; omega
  have H6 := hide_ (show ∀ x ∈ l, x.b.l.length ≤ 600 from fun x hx => by
    have := mt (fun h => Or.inr (Or.inr (Or.inr (Or.inr (Or.inr ⟨x, hx, h⟩))))) hgr
    omega)
  have HG := hide_ (show Calls Try.prog 5 #[.int .i64 (n : Int), .int .i64 (c : Int), .slice A m cp] w fun e w' => e = .returned (.bool false) ∧ w = w' from by
    have := great12_any n c ⟨A, cp, l⟩ w.heap.size w hs
    rwa [hg, Sl.v, hm] at this)
  have HS := hide_ hs
  have HM := hide_ hm
  clear hs hm hg hgr
  go_enter Try.func3, Try.ntmps3
  go_wp2_with (go_at_call 5; refine HG.out.mono ?_; rintro e wg ⟨rfl, rfl⟩)
  refine (New_good n c _ h1 h2 h3 (by omega)).mono ?_
  rintro e w1 ⟨L, rfl, hd1, hb1, hs1⟩
  obtain ⟨bc, hbc⟩ : ∃ bc, L.b = bc := ⟨_, rfl⟩
  have HSZ := hide_ (show Calls Try.prog 8 #[.pointer (some ⟨bc, 0, none⟩)] w1 fun e w' => e = .returned (.int .i64 (n : Int)) ∧ w1 = w' from hbc ▸ Size_any hd1)
  have HCT := hide_ (show Calls Try.prog 9 #[.pointer (some ⟨bc, 0, none⟩)] w1 fun e w' => e = .returned (.int .i64 (c : Int)) ∧ w1 = w' from hbc ▸ Count_any hd1)
  have HS1 := hide_ (show Solo w L (makeD n c) w1 from ⟨hd1, hb1, hs1⟩)
  rw [hbc]
  have HBC := hide_ hbc
  clear hd1 hb1 hs1 hbc
  go_upto_region 6 with (first | (go_at_call 8; refine HSZ.out.mono ?_; rintro e ws ⟨rfl, rfl⟩) | (go_at_call 9; refine HCT.out.mono ?_; rintro e ws ⟨rfl, rfl⟩))
  go_wp2_with fail
  refine (refNew12_any n c w1 ⟨h1, h2⟩ (by omega)).mono ?_
  rintro e w2 ⟨x1, rfl, hp2, hok2, hb2⟩
  obtain ⟨n1, c1, kA1, kc1, k1, wA1, wc1, ws1, off1, falls1, fuse1⟩ := x1
  simp only [RdM.v, RdM.cs]
  obtain ⟨W3, hW3⟩ : ∃ W, w2.alloc (.cells #[.int .i64 (n1 : Int), .int .i64 (c1 : Int), .slice kA1 k1.length kc1, .slice wA1 ws1.length wc1, .bool off1, .int .u64 falls1, .int .i64 fuse1] 34) = W := ⟨_, rfl⟩
  have ha3 : Below w2.heap.size w2 W3 := hW3 ▸ (Below.refl _ _).alloc (Nat.le_refl _) _
  have hn3 : BoxAt W3 w2.heap.size #[.int .i64 (n1 : Int), .int .i64 (c1 : Int), .slice kA1 k1.length kc1, .slice wA1 ws1.length wc1, .bool off1, .int .u64 falls1, .int .i64 fuse1] 34 := hW3 ▸ BoxAt.new w2 _ _
  have hS3 := (HS1.out.below hb2).below ha3
  obtain ⟨g9, hg9⟩ : ∃ g, w2.heap.size = g := ⟨_, rfl⟩
  have HQ3 := hide_ (show InvQ w bc n c g9 0 L (makeD n c) ⟨n1, c1, kA1, kc1, k1, wA1, wc1, ws1, off1, falls1, fuse1⟩ W3 from ⟨HBC.out, hS3, hok2.below ha3, hp2.trans (new_ref n c), hg9 ▸ hn3, rfl, rfl, Nat.le_refl _, fun e => by have := HS1.out.d.lt e; have := hb2.size; omega, by have := HS1.out.b.size; have := hb2.size; omega⟩)
  have HW3 := hide_ hW3
  have HG9 := hide_ hg9
  clear hW3 ha3 hn3 hS3 hg9 hp2 hok2 hb2
  go_upto_region 7 with fail
  rw [HW3.out, HG9.out]
  clear HW3 HG9 HSZ HCT HS1
  go_wp2
  go_loopw [10] (fun i wr => ∃ k : Nat, k ≤ m ∧ i = .int .i64 (k : Int) ∧ ∃ L D x, Hid (InvQ w bc n c g9 k L D x wr)) (fun i _ => m - (intOf i).toNat)
  case atStart => exact ⟨0, Nat.zero_le _, rfl, _, _, _, HQ3⟩
  case round =>
    obtain ⟨k, hk, rfl, L1, D1, x1, HQ⟩ := hrel
    by_cases hlt : k < m
    · obtain ⟨x, hx⟩ : ∃ x, l[k]? = some x := ⟨_, List.getElem?_eq_getElem (by rw [HM.out]; exact hlt)⟩
      have hmem := List.mem_of_getElem? hx
      obtain ⟨b, off, rfl, hb, q0, q1, q2, q3, q4, q5⟩ := HS.out.2.2.1.st hx
      have HOK := hide_ (HS.out.2.2.2 x hmem)
      have HSL := hide_ (H6.out x hmem)
      clear hx hmem
      have hwn := HQ.out.wl
      have HDO := hide_ (show ∀ W, Below wr.heap.size wr W → Calls Try.prog 11 #[.pointer (some ⟨bc, 0, none⟩), x1.v, .agg x.cs.toArray] W (DoesP L1 (stepD D1 x) W) from fun W hW => by
        have HQd := HQ.out.below hW
        have := does_any HQd.d.d x1 HQd.ok HQd.p x w.heap.size HQd.d.h HQd.d.b.size (st_stable.below HOK.out HQd.d.b) (by omega) (by have := HSL.out; omega)
        rwa [HQd.e] at this)
      obtain ⟨n1, c1, kA1, kc1, k1, wA1, wc1, ws1, off1, falls1, fuse1⟩ := x1
      obtain ⟨ki, xi, xq, ⟨xa, xc, xl⟩, xt, xy⟩ := x
      simp only [Sl.v] at q0 q1 q2 q3 q4 q5
      simp only [RdM.v, RdM.cs, StM.cs, Sl.v] at HDO
      have p0 := (HQ.out.d.b.cell (p := ⟨b, off + k * 6, none⟩) hb).trans q0
      have p1 := (HQ.out.d.b.cell (p := ⟨b, off + k * 6 + 1, none⟩) hb).trans q1
      have p2 := (HQ.out.d.b.cell (p := ⟨b, off + k * 6 + 2, none⟩) hb).trans q2
      have p3 := (HQ.out.d.b.cell (p := ⟨b, off + k * 6 + 3, none⟩) hb).trans q3
      have p4 := (HQ.out.d.b.cell (p := ⟨b, off + k * 6 + 4, none⟩) hb).trans q4
      have p5 := (HQ.out.d.b.cell (p := ⟨b, off + k * 6 + 5, none⟩) hb).trans q5
      have hcm := HQ.out.m.cell
      simp only [RdM.cs] at hcm
      have hab := (Below.refl wr.heap.size wr).alloc (Nat.le_refl _) (.cells #[.int .i64 0, .int .i64 0, .slice none 0 0, .slice none 0 0, .bool false, .int .u64 0, .int .i64 0] 34)
      have hba : b < wr.heap.size := Nat.lt_of_lt_of_le hb HQ.out.d.b.size
      have r0 := (hab.cell (p := ⟨b, off + k * 6, none⟩) hba).trans p0
      have r1 := (hab.cell (p := ⟨b, off + k * 6 + 1, none⟩) hba).trans p1
      have r2 := (hab.cell (p := ⟨b, off + k * 6 + 2, none⟩) hba).trans p2
      have r3 := (hab.cell (p := ⟨b, off + k * 6 + 3, none⟩) hba).trans p3
      have r4 := (hab.cell (p := ⟨b, off + k * 6 + 4, none⟩) hba).trans p4
      have r5 := (hab.cell (p := ⟨b, off + k * 6 + 5, none⟩) hba).trans p5
      have hcm2 := (HQ.out.m.below hab).cell
      simp only [RdM.cs] at hcm2
      clear q0 q1 q2 q3 q4 q5 hwn hab hba
      go_upto_region 10 with fail
      go_cut [11, 12] (fun pa pb wx => ∃ g12 L4 D2 y, pa = .bool true ∧ pb = .pointer (some ⟨g12, 0, none⟩) ∧ Hid (RdyQ w bc n c g9 g12 (k + 1) L4 D2 ⟨n1, c1, kA1, kc1, k1, wA1, wc1, ws1, off1, falls1, fuse1⟩ y wx))
      case first =>
        go_region_law (go_simp; go_at_call 11; (first | (refine (HDO.out ((wr.alloc (.cells #[.int .i64 0, .int .i64 0, .slice none 0 0, .slice none 0 0, .bool false, .int .u64 0, .int .i64 0] 34)).drew) (((Below.refl wr.heap.size wr).alloc (Nat.le_refl _) _).drew)).mono ?_; rintro e w4 ⟨y1, rfl, hpy, hoy, hdo⟩; (obtain ⟨L4, ha4, hz4, hn4, hne4, hg4⟩ := HQ.out.after_a hdo hpy hoy); (have hcz := hz4.cell); (have hfz := hz4.free9); (have HZ4 := hide_ (And.intro hz4 (And.intro hn4 (And.intro hne4 hg4)))); clear hz4 hn4 hne4 hg4) | (refine (HDO.out wr.drew ((Below.refl _ _).drew)).mono ?_; rintro e w4 ⟨y1, rfl, hpy, hoy, hdo⟩; (obtain ⟨L4, ha4, hc4, hs4⟩ := HQ.out.after ((Below.refl _ _).drew) hdo hpy hoy); clear hc4 hs4)); (have HA4 := hide_ ha4); (obtain ⟨n2, c2, kA2, kc2, k2, wA2, wc2, ws2, off2, falls2, fuse2⟩ := y1); simp only [RdM.v, RdM.cs]; clear ha4 hpy hoy hdo hcm hcm2 p0 p1 p2 p3 p4 p5 r0 r1 r2 r3 r4 r5)
        all_goals go_wp2_with fail
        all_goals go_meet
        all_goals first
          | exact ⟨_, _, _, ⟨n2, c2, kA2, kc2, k2, wA2, wc2, ws2, off2, falls2, fuse2⟩, rfl, rfl, hide_ HA4.out.fresh⟩
          | exact ⟨_, _, _, ⟨n2, c2, kA2, kc2, k2, wA2, wc2, ws2, off2, falls2, fuse2⟩, rfl, rfl, hide_ (HA4.out.filled HZ4.out.1 HZ4.out.2.1 HZ4.out.2.2.1 HZ4.out.2.2.2 (HZ4.out.1.put7 (.int .i64 (n2 : Int)) (.int .i64 (c2 : Int)) (.slice kA2 k2.length kc2) (.slice wA2 ws2.length wc2) (.bool off2) (.int .u64 falls2) (.int .i64 fuse2)) (grown_put7 w4 wr.heap.size (.int .i64 (n2 : Int)) (.int .i64 (c2 : Int)) (.slice kA2 k2.length kc2) (.slice wA2 ws2.length wc2) (.bool off2) (.int .u64 falls2) (.int .i64 fuse2)))⟩
      case rest =>
      obtain ⟨g12, L4, D2, y1, rfl, rfl, HR⟩ := hcut
      obtain ⟨n2, c2, kA2, kc2, k2, wA2, wc2, ws2, off2, falls2, fuse2⟩ := y1
      have hcy := HR.out.z.cell
      have hcm := HR.out.a.m.cell
      have hfm := HR.out.a.m.free9
      simp only [RdM.cs] at hcy hcm
      clear HDO HQ HOK HSL HQ3 p0 p1 p2 p3 p4 p5 r0 r1 r2 r3 r4 r5 hcm2
      go_upto_region 12 with fail
      obtain ⟨W6, hW6⟩ : ∃ W, (((((((wc.setCell ⟨g9, 0, none⟩ (.int .i64 (n2 : Int))).setCell ⟨g9, 1, none⟩ (.int .i64 (c2 : Int))).setCell ⟨g9, 2, none⟩ (.slice kA2 k2.length kc2)).setCell ⟨g9, 3, none⟩ (.slice wA2 ws2.length wc2)).setCell ⟨g9, 4, none⟩ (.bool off2)).setCell ⟨g9, 5, none⟩ (.int .u64 falls2)).setCell ⟨g9, 6, none⟩ (.int .i64 fuse2)) = W := ⟨_, rfl⟩
      rw [hW6]
      have HI := hide_ (show InvQ w bc n c g9 (k + 1) L4 D2 ⟨n2, c2, kA2, kc2, k2, wA2, wc2, ws2, off2, falls2, fuse2⟩ W6 from hW6 ▸ HR.out.a.put (HR.out.a.m.put7 (.int .i64 (n2 : Int)) (.int .i64 (c2 : Int)) (.slice kA2 k2.length kc2) (.slice wA2 ws2.length wc2) (.bool off2) (.int .u64 falls2) (.int .i64 fuse2)) (grown_put7 wc g9 (.int .i64 (n2 : Int)) (.int .i64 (c2 : Int)) (.slice kA2 k2.length kc2) (.slice wA2 ws2.length wc2) (.bool off2) (.int .u64 falls2) (.int .i64 fuse2)))
      clear hcy hcm hfm hW6 HR
      have hp := HI.out.p
      have e1 : off2 = !D2.on := congrArg RP.off hp
      have e2 : falls2 = D2.falls := congrArg RP.falls hp
      have e3 : ws2 = D2.waits := congrArg RP.ws hp
      have HON := hide_ (fun (u : World) (hu : ∃ q, u = W6.drewN q) => show Calls Try.prog 12 #[.pointer (some ⟨bc, 0, none⟩)] u fun e w' => e = .returned (.bool D2.on) ∧ w' = u from by
        obtain ⟨q, rfl⟩ := hu
        have := IsOn_any (HI.out.d.below (below_dN (Below.refl _ _) q)).d
        rw [HI.out.e] at this
        exact this.mono fun e w' h => ⟨h.1, h.2.symm⟩)
      have HFA := hide_ (fun (u : World) (hu : ∃ q, u = W6.drewN q) => show Calls Try.prog 13 #[.pointer (some ⟨bc, 0, none⟩)] u fun e w' => e = .returned (.int .u64 D2.falls) ∧ w' = u from by
        obtain ⟨q, rfl⟩ := hu
        have := Falls_any (HI.out.d.below (below_dN (Below.refl _ _) q)).d
        rw [HI.out.e] at this
        exact this.mono fun e w' h => ⟨h.1, h.2.symm⟩)
      have HWT := hide_ (fun (u : World) (hu : ∃ q, u = W6.drewN q) => show Calls Try.prog 14 #[.pointer (some ⟨bc, 0, none⟩)] u fun e w' => e = .returned (.int .i64 (D2.waits.length : Int)) ∧ w' = u from by
        obtain ⟨q, rfl⟩ := hu
        have := Waits_any (HI.out.d.below (below_dN (Below.refl _ _) q)).d
        rw [HI.out.e] at this
        exact this.mono fun e w' h => ⟨h.1, h.2.symm⟩)
      have hcm := HI.out.m.cell
      simp only [RdM.cs] at hcm
      rw [e1, e2, e3] at hcm
      obtain ⟨o2, ho2⟩ : ∃ z, D2.on = z := ⟨_, rfl⟩
      obtain ⟨f2, hf2⟩ : ∃ z, D2.falls = z := ⟨_, rfl⟩
      obtain ⟨z2, hz2⟩ : ∃ z, D2.waits.length = z := ⟨_, rfl⟩
      rw [ho2] at HON hcm
      rw [hf2] at HFA hcm
      rw [hz2] at HWT hcm
      have hno : (o2 == !o2) = false := by cases o2 <;> rfl
      clear hp e1 e2 e3 ho2 hf2 hz2
      go_quiet (first | (go_at_call 12; refine Calls.quiet_of_same (HON.out _ ⟨_, rfl⟩)) | (go_at_call 13; refine Calls.quiet_of_same (HFA.out _ ⟨_, rfl⟩)) | (go_at_call 14; refine Calls.quiet_of_same (HWT.out _ ⟨_, rfl⟩)))
      obtain ⟨W7, hW7⟩ : ∃ u, W6.drewN nq = u := ⟨_, rfl⟩
      have HI7 := hide_ (HI.out.below (hW7 ▸ below_dN (Below.refl _ _) nq : Below W6.heap.size W6 W7))
      rw [hW7]
      clear hcm HI hW7 HON HFA HWT
      go_wp2
      go_roundw
      case rel => exact ⟨k + 1, by omega, by go_num, L4, D2, _, HI7⟩
      case measure => simp [intOf]; omega
    · obtain rfl : k = m := by omega
      have HBA := hide_ (HQ.out.d.back HQ.out.e 1000 false)
      obtain ⟨k1', k2', k3', k4'⟩ := back_on D1 1000 false
      have HBP := hide_ (show backP x1.p 1000 false = refOf (backD D1 1000 false) from by rw [HQ.out.p]; exact back_ref HQ.out.d.d.ok 1000 false)
      obtain ⟨D4, hD4⟩ : ∃ D4, backD D1 1000 false = D4 := ⟨_, rfl⟩
      rw [hD4] at HBA HBP k1' k2' k3' k4'
      rw [HQ.out.c] at k3'
      rw [HQ.out.n] at k4'
      have K1 := hide_ k1'
      have K2 := hide_ k2'
      have K3 := hide_ k3'
      have K4 := hide_ k4'
      clear hD4 k1' k2' k3' k4'
      go_upto_region 15 with (go_at_call 15; refine HBA.out.mono ?_; rintro en w4 ⟨rfl, L4, eb4, hd4, hc4, hs4⟩)
      obtain ⟨ok4, m4, n4⟩ := HQ.out.back hc4 hs4
      have HG := hide_ HQ.out.g
      have HRB := hide_ (refBack12_any x1 1000 false w4 ok4)
      rw [HBP.out] at HRB
      have HM4 := hide_ m4
      have HD4 := hide_ hd4
      have HN4 := hide_ n4
      have EB4 := hide_ eb4
      clear hc4 hs4 ok4 m4 n4 hd4 eb4 HQ HBA HBP
      obtain ⟨n1, c1, kA1, kc1, k1, wA1, wc1, ws1, off1, falls1, fuse1⟩ := x1
      simp only [RdM.v, RdM.cs] at HRB
      have hcm := HM4.out.cell
      simp only [RdM.cs] at hcm
      go_wp2_with fail
      refine HRB.out.mono ?_
      rintro e w5 ⟨y1, rfl, hpy, hoy, hby⟩
      have HA5 := hide_ (show AftQ w bc n c g9 0 L4 D4 ⟨n1, c1, kA1, kc1, k1, wA1, wc1, ws1, off1, falls1, fuse1⟩ y1 w5 from ⟨EB4.out, HD4.out.below hby, hoy, hpy, HM4.out.below hby, K4.out, K3.out, by rw [K2.out]; exact Nat.le_refl _, HN4.out, HG.out⟩)
      obtain ⟨n2, c2, kA2, kc2, k2, wA2, wc2, ws2, off2, falls2, fuse2⟩ := y1
      simp only [RdM.v, RdM.cs]
      have hcm5 := HA5.out.m.cell
      have hfm5 := HA5.out.m.free9
      simp only [RdM.cs] at hcm5
      clear hpy hoy hby hcm
      go_upto_region 16 with fail
      obtain ⟨W6, hW6⟩ : ∃ W, (((((((w5.setCell ⟨g9, 0, none⟩ (.int .i64 (n2 : Int))).setCell ⟨g9, 1, none⟩ (.int .i64 (c2 : Int))).setCell ⟨g9, 2, none⟩ (.slice kA2 k2.length kc2)).setCell ⟨g9, 3, none⟩ (.slice wA2 ws2.length wc2)).setCell ⟨g9, 4, none⟩ (.bool off2)).setCell ⟨g9, 5, none⟩ (.int .u64 falls2)).setCell ⟨g9, 6, none⟩ (.int .i64 fuse2)) = W := ⟨_, rfl⟩
      rw [hW6]
      have HI := hide_ (show InvQ w bc n c g9 0 L4 D4 ⟨n2, c2, kA2, kc2, k2, wA2, wc2, ws2, off2, falls2, fuse2⟩ W6 from hW6 ▸ HA5.out.put (HA5.out.m.put7 (.int .i64 (n2 : Int)) (.int .i64 (c2 : Int)) (.slice kA2 k2.length kc2) (.slice wA2 ws2.length wc2) (.bool off2) (.int .u64 falls2) (.int .i64 fuse2)) (grown_put7 w5 g9 (.int .i64 (n2 : Int)) (.int .i64 (c2 : Int)) (.slice kA2 k2.length kc2) (.slice wA2 ws2.length wc2) (.bool off2) (.int .u64 falls2) (.int .i64 fuse2)))
      clear hcm5 hfm5 hW6 HA5 HRB HM4 HD4 HN4 HQ3
      go_wp2
      go_loopw [13] (fun i wr => ∃ j : Nat, j ≤ c ∧ i = .int .i64 (j : Int) ∧ Hid (InvQ w bc n c g9 0 L4 D4 ⟨n2, c2, kA2, kc2, k2, wA2, wc2, ws2, off2, falls2, fuse2⟩ wr)) (fun i _ => c - (intOf i).toNat)
      case atStart => exact ⟨0, Nat.zero_le _, rfl, HI⟩
      case round =>
        obtain ⟨j, hj, rfl, HJ⟩ := hrel
        clear HI
        by_cases hjc : j < c
        · have HR1 := hide_ (HJ.out.d.read EB4.out (j : Int))
          unfold ReadR at HR1
          rw [read_on K1.out (by omega) (by rw [K3.out]; omega), rd_none K1.out K2.out (by rw [K3.out]; omega)] at HR1
          have hln := (HJ.out.d.d.ok.k j).trans K4.out
          obtain ⟨b, o, hkA, hb, hck, hkl⟩ := HJ.out.kept hjc
          simp only at hkl hkA
          obtain ⟨rb, hrb⟩ : ∃ rb, D4.kept j = rb := ⟨_, rfl⟩
          rw [hrb] at HR1 hln hck
          rw [hln] at HR1
          have HLN := hide_ hln
          have hcm := HJ.out.m.cell
          simp only [RdM.cs] at hcm
          rw [hkl, hkA] at hcm
          have HKA := hide_ hkA
          have HKL := hide_ hkl
          clear hrb hln hkA hkl
          go_wp2_with (go_at_call 17; with_reducible refine HR1.out.mono ?_; rintro en w5 ⟨A6, c6, rfl, hown6, hb6⟩; (have HP6 := hide_ (HJ.out.below hb6)); (have hck6 := (hb6.cell (p := ⟨b, o + j, none⟩) hb).trans hck); (have hcm6 := HP6.out.m.cell); (simp only [RdM.cs] at hcm6); (rw [HKL.out, HKA.out] at hcm6); (have cv5 := fun q : Nat => run_str (P := Try.prog) (w5.drewN q) 38 9 5 Try.underlying38 Try.underlying5 Try.underlying9 rb (w5.drewN q).heap.size A6 n c6 HLN.out (Sees.own (own_below hown6 (below_dN (Below.refl _ _) q)))); clear hown6 hb6 hcm hck)
          go_quiet (fail)
          obtain ⟨W7, hW7⟩ : ∃ u, w5.drewN nq = u := ⟨_, rfl⟩
          have HI7 := hide_ (HP6.out.below (hW7 ▸ below_dN (Below.refl _ _) nq : Below w5.heap.size w5 W7))
          rw [hW7]
          clear cv5 hcm6 hck6 hW7 HP6
          go_wp2
          go_roundw
          case rel => exact ⟨j + 1, by omega, by go_num, HI7⟩
          case measure => simp [intOf]; omega
        · obtain rfl : j = c := by omega
          go_wp2_with (go_at_call 6; refine (awake12_any _).mono ?_; rintro e wz ⟨rfl, hbz⟩)
          go_ret
          exact ⟨rfl, HJ.out.d.b.trans (hbz.mono HJ.out.d.b.size)⟩

theorem own : ownKnob Try.prog.godebug = none := by kernel_rfl
theorem laid : laidOutB Try.prog = true := by kernel_rfl

set_option maxRecDepth 100000 in
theorem contract (H : Type) (enc : TypeId × Value → H) (W : World) (base : Nat) (args : Array Value) (ds gs : List (DataW H)) (before : List MemPlace)
    (hval : ∀ (j : Nat) t v, Try.f3.params[j]? = some t → args[j]? = some v → Value.okWide Try.prog W .any base t v)
    (hW : DataW.Whole enc Try.prog Try.f3.params.toList Rows.sectorPlaysSpec.vars false W args.toList ds gs before) :
    Calls Try.prog 3 args W fun e W' => ∃ v, e = .returned v ∧ Rows.sectorPlaysSpec.post enc Try.prog Try.f3 false true false false W args v W' := by
  have hW' := hW
  obtain ⟨p, q, hA0, hV, rfl, hfz, hnd⟩ := hW
  have hA : DataW.TrodAll enc Try.prog W 0 (fun _ => true) true Try.f3.params.toList args.toList ds p := hA0
  rw [Try.params3] at hA hval
  obtain ⟨v0, vs0, d0, ds0, p0, q0, hargs, rfl, rfl, h0, r0⟩ := trodAll_cons hA
  obtain ⟨v1, vs1, d1, ds1, p1, q1, rfl, rfl, rfl, h1, r1⟩ := trodAll_cons r0
  obtain ⟨v2, vs2, d2, ds2, p2, q2, rfl, rfl, rfl, h2, r2⟩ := trodAll_cons r1
  obtain ⟨rfl, rfl, rfl⟩ := trodAll_nil r2
  obtain rfl : args = #[v0, v1, v2] := by cases args; simp_all
  obtain ⟨rfl, rfl⟩ := trodVars_none hV
  obtain ⟨a0, rfl, rfl, rfl, w0⟩ := open_int Try.underlying3 (hval 0 3 v0 rfl rfl) h0
  have b0 : -9223372036854775808 ≤ a0 ∧ a0 ≤ 9223372036854775807 := by simpa [Lit.wf, IntKind.min, IntKind.max, IntKind.signed, IntKind.bits] using w0
  obtain ⟨a1, rfl, rfl, rfl, w1⟩ := open_int Try.underlying3 (hval 1 3 v1 rfl rfl) h1
  have b1 : -9223372036854775808 ≤ a1 ∧ a1 ≤ 9223372036854775807 := by simpa [Lit.wf, IntKind.min, IntKind.max, IntKind.signed, IntKind.bits] using w1
  obtain ⟨u2, rfl, bu2⟩ := open_steps (hval 2 22 v2 rfl rfl) h2
  have fin : ∀ (e : Ending) (W' : World), e = .returned (.bool true) ∧ Below W.heap.size W W' → ∃ v, e = .returned v ∧ Rows.sectorPlaysSpec.post enc Try.prog Try.f3 false true false false W #[.int .i64 a0, .int .i64 a1, Sl.v u2] v W' :=
    fun e W' ⟨he, hb⟩ => ⟨_, he, law_post laid (by kernel_rfl) rfl rfl rfl Try.underlying4 hW' hb⟩
  by_cases hg : greatD a0 a1 u2.l = true
  · exact (walk_long a0 a1 u2 W bu2 hg).mono fin
  · have hg' : greatD a0 a1 u2.l = false := by simpa using hg
    have hgr := of_decide_eq_false hg'
    obtain ⟨p, rfl⟩ : ∃ p : Nat, a0 = (p : Int) := ⟨a0.toNat, by have := mt Or.inl hgr; omega⟩
    obtain ⟨q, rfl⟩ : ∃ q : Nat, a1 = (q : Int) := ⟨a1.toNat, by have := mt (fun h => Or.inr (Or.inr (Or.inl h))) hgr; omega⟩
    obtain ⟨A, cp, l⟩ := u2
    exact (walk p q A cp l l.length W bu2 rfl hg').mono fin

set_option maxRecDepth 100000 in
theorem lifted (os : Os) (started : os.Started) (H : Type) (enc : TypeId × Value → H) :
    ReturnsInHanded {} Try.checked os 3 .any (Rows.sectorPlaysSpec.pre6 enc Try.prog Try.f3 Rows.sectorPlaysRow.domain false) (Rows.sectorPlaysSpec.post enc Try.prog Try.f3 false true false false) := by
  refine returnsInHanded_of_change (C := Try.checked) (s := Rows.sectorPlaysSpec) own started (by kernel_rfl) Try.func3
    (ChangeSpec.witness6 (enc := enc) (C := Try.checked) false ⟨#[], #[.int .i64 0, .int .i64 0, .slice none 0 0], []⟩ 8 (by kernel_rfl) (by kernel_rfl) (by kernel_rfl) (by kernel_rfl)) ?_
  intro W base args ds gs before hval hW _ _
  exact contract H enc W base args ds gs before hval hW

theorem proved : Rows.SectorPlaysSaid :=
  OpenClaim.holds_of_wide 3 Try.f3 rfl rfl rfl rfl rfl rfl rfl ⟨rfl, rfl, rfl, rfl, rfl⟩ rfl rfl rfl rfl rfl (by kernel_rfl) Try.func3 (by kernel_rfl)
    (of_decide_eq_true (by kernel_rfl)) (by unfold Func.isWrapper; first | (rw [if_pos (by decide +kernel)]; kernel_rfl) | (rw [if_neg (by decide +kernel)]; exact ⟨rfl, rfl⟩))
    (fun os started H enc _ => lifted os started H enc)
end Go.Proofs.Ytcpoppfifadbiaa.sectorPlays
