/-
  Contract of the document's Spoil.
-/
import Derived.Test.YtcpoppfifadbiaaRd12f
import Derived.Laws.IdiomStrings
namespace Go.Proofs.Ytcpoppfifadbiaa
open Go.RowKit

/-- bytes of a string -/
theorem bytes_of12 (l : List UInt8) (w : World) : ∃ cp w1, (convert 9 38 (.string (strOf l))).run Try.prog w = .ok (.slice (some ⟨w.heap.size, 0, none⟩) l.length cp) w1 ∧ Below w.heap.size w w1 ∧ w1.heap.size = w.heap.size + 1 ∧
    ∀ j x, l[j]? = some x → w1.cell? ⟨w.heap.size, j, none⟩ = some (.int .u8 (x.toNat : Int)) ∧ w1.frozen? ⟨w.heap.size, j, none⟩ = false := by
  have h := run_bytes_of_string (P := Try.prog) w 9 38 5 (strOf l) Try.underlying9 Try.underlying38 Try.underlying5
  have hs : (strOf l).size = l.length := by show (strOf l).data.size = l.length; simp [strOf]
  rw [hs] at h
  refine ⟨_, _, h, ((Below.refl _ _).drew).alloc (by simp) _, by simp, fun j x e => ?_⟩
  obtain ⟨hj, rfl⟩ := List.getElem?_eq_some_iff.1 e
  refine ⟨?_, ?_⟩
  · refine (cell_of_row _ w.heap.size j _ _ _ (heap_alloc_new w.drew _)).trans ?_
    rw [bytesRow_at (strOf l) _ j (by simpa [strOf] using hj)]
    simp [strOf]
  · have := World.frozen?_alloc_mark w.drew (bytesRow (strOf l) (grownCap w l.length 0 5)) 5 (bytesRow (strOf l) (grownCap w l.length 0 5)).size ((bytesRow (strOf l) (grownCap w l.length 0 5)).size + 1) j
    refine this.trans ?_
    have hb : l.length ≤ (bytesRow (strOf l) (grownCap w l.length 0 5)).size := by simp [bytesRow, strOf]
    simp
    omega
theorem serrP_in {p : RP} {i a : Int} (h : (0 ≤ i ∧ i < p.c) ∧ 0 ≤ a ∧ a < p.n) : serrP p i a = 0 := if_pos h
theorem serrP_no {p : RP} {i a : Int} (b : UInt8) (h : ¬((0 ≤ i ∧ i < p.c) ∧ 0 ≤ a ∧ a < p.n)) : serrP p i a = 6 ∧ spoilP p i a b = p := by
  have e : serrP p i a = 6 := if_neg h
  exact ⟨e, by rw [spoilP, e]; rfl⟩
theorem xor12 (a b : UInt8) : bits .xor .u8 (a.toNat : Int) (b.toNat : Int) = ((a ^^^ b).toNat : Int) := xor8 a b

set_option maxRecDepth 100000 in
set_option maxHeartbeats 1600000 in
theorem refSpoil12_any (x : RdM) (i a : Int) (b : UInt8) (w : World) (h : RdM.ok w x) : Calls Try.prog 36 #[x.v, .int .i64 i, .int .i64 a, .int .u8 (b.toNat : Int)] w (RefE12 w (serrP x.p i a) (spoilP x.p i a b)) := by
  have H := hide_ h
  have HST := hide_ (fun (q : Nat × List UInt8) (u : World) (hu : RdM.ok u x) (B : Nat) (A : Option Addr) (hl : Sees u B A (wC [q])) (hB : B ≤ u.heap.size) (hq : q.1 < x.c ∧ q.2.length = x.n) => refSettled12_any x [q] B A 1 1 u hu hl rfl hB (fun r hr => by simp at hr; subst hr; exact hq) (by omega))
  obtain ⟨n, c, kA, kc, k, wA, wc, ws, off, falls, fuse⟩ := x
  simp only [RdM.v, RdM.cs] at HST ⊢
  obtain ⟨p, hp⟩ : ∃ p, RdM.p ⟨n, c, kA, kc, k, wA, wc, ws, off, falls, fuse⟩ = p := ⟨_, rfl⟩
  rw [hp] at HST ⊢
  obtain ⟨W0, hW0, hx0, hz0, hs0, hb0⟩ := boxes12 w #[.int .i64 (n : Int), .int .i64 (c : Int), .slice kA k.length kc, .slice wA ws.length wc, .bool off, .int .u64 falls, .int .i64 fuse]
  have HP := hide_ hp
  have HW0 := hide_ hW0
  have HX0 := hide_ hx0
  have HZ0 := hide_ hz0
  have HS0 := hide_ hs0
  have HB0 := hide_ hb0
  clear hW0 hx0 hz0 hs0 hb0 h hp
  by_cases g1 : i < 0
  · have HY := hide_ (serrP_no (p := p) (i := i) (a := a) b (by rw [← HP.out]; show ¬((0 ≤ i ∧ i < (c : Int)) ∧ 0 ≤ a ∧ a < (n : Int)); omega))
    go_enter Try.func36, Try.ntmps36
    go_upto_region 1 with fail
    rw [HW0.out]
    have hcx := HX0.out.cell
    have hcz := HZ0.out.cell
    have hfz := HZ0.out.free9
    go_wp2
    go_region
    go_wp2
    clear hcx hcz hfz
    have HE := hide_ (HZ0.out.put7 (.int .i64 (n : Int)) (.int .i64 (c : Int)) (.slice kA k.length kc) (.slice wA ws.length wc) (.bool off) (.int .u64 falls) (.int .i64 fuse))
    have hq := HE.out.cell
    have q0 := hq 0
    have q1 := hq 1
    have q2 := hq 2
    have q3 := hq 3
    have q4 := hq 4
    have q5 := hq 5
    have q6 := hq 6
    simp only [List.getElem?_toArray, List.getElem?_cons_zero, List.getElem?_cons_succ] at q0 q1 q2 q3 q4 q5 q6
    clear hq
    refine bodyPost_ret (v := .tuple #[.int .i64 6, .agg #[.int .i64 (n : Int), .int .i64 (c : Int), .slice kA k.length kc, .slice wA ws.length wc, .bool off, .int .u64 falls, .int .i64 fuse]]) (by simp [results, Try.results36, go_sem, q0, q1, q2, q3, q4, q5, q6]) rfl ?_
    have hs0 := HS0.out
    have hG := grown_put7 W0 (w.heap.size + 1) (.int .i64 (n : Int)) (.int .i64 (c : Int)) (.slice kA k.length kc) (.slice wA ws.length wc) (.bool off) (.int .u64 falls) (.int .i64 fuse)
    have hW := (HB0.out.grown hG (by omega) (fun k hk => by injection hk with hk; omega)).drew
    rw [HY.out.1, HY.out.2]
    exact ⟨⟨n, c, kA, kc, k, wA, wc, ws, off, falls, fuse⟩, rfl, HP.out, ((H.out.below HB0.out).grown HZ0.out hG).below ((Below.refl _ _).drew), hW⟩
  by_cases g2 : (c : Int) ≤ i
  · have HY := hide_ (serrP_no (p := p) (i := i) (a := a) b (by rw [← HP.out]; show ¬((0 ≤ i ∧ i < (c : Int)) ∧ 0 ≤ a ∧ a < (n : Int)); omega))
    go_enter Try.func36, Try.ntmps36
    go_upto_region 1 with fail
    rw [HW0.out]
    have hcx := HX0.out.cell
    have hcz := HZ0.out.cell
    have hfz := HZ0.out.free9
    go_wp2
    go_region
    go_wp2
    clear hcx hcz hfz
    have HE := hide_ (HZ0.out.put7 (.int .i64 (n : Int)) (.int .i64 (c : Int)) (.slice kA k.length kc) (.slice wA ws.length wc) (.bool off) (.int .u64 falls) (.int .i64 fuse))
    have hq := HE.out.cell
    have q0 := hq 0
    have q1 := hq 1
    have q2 := hq 2
    have q3 := hq 3
    have q4 := hq 4
    have q5 := hq 5
    have q6 := hq 6
    simp only [List.getElem?_toArray, List.getElem?_cons_zero, List.getElem?_cons_succ] at q0 q1 q2 q3 q4 q5 q6
    clear hq
    refine bodyPost_ret (v := .tuple #[.int .i64 6, .agg #[.int .i64 (n : Int), .int .i64 (c : Int), .slice kA k.length kc, .slice wA ws.length wc, .bool off, .int .u64 falls, .int .i64 fuse]]) (by simp [results, Try.results36, go_sem, q0, q1, q2, q3, q4, q5, q6]) rfl ?_
    have hs0 := HS0.out
    have hG := grown_put7 W0 (w.heap.size + 1) (.int .i64 (n : Int)) (.int .i64 (c : Int)) (.slice kA k.length kc) (.slice wA ws.length wc) (.bool off) (.int .u64 falls) (.int .i64 fuse)
    have hW := (HB0.out.grown hG (by omega) (fun k hk => by injection hk with hk; omega)).drew
    rw [HY.out.1, HY.out.2]
    exact ⟨⟨n, c, kA, kc, k, wA, wc, ws, off, falls, fuse⟩, rfl, HP.out, ((H.out.below HB0.out).grown HZ0.out hG).below ((Below.refl _ _).drew), hW⟩
  by_cases g3 : a < 0
  · have HY := hide_ (serrP_no (p := p) (i := i) (a := a) b (by rw [← HP.out]; show ¬((0 ≤ i ∧ i < (c : Int)) ∧ 0 ≤ a ∧ a < (n : Int)); omega))
    go_enter Try.func36, Try.ntmps36
    go_upto_region 1 with fail
    rw [HW0.out]
    have hcx := HX0.out.cell
    have hcz := HZ0.out.cell
    have hfz := HZ0.out.free9
    go_wp2
    go_region
    go_wp2
    clear hcx hcz hfz
    have HE := hide_ (HZ0.out.put7 (.int .i64 (n : Int)) (.int .i64 (c : Int)) (.slice kA k.length kc) (.slice wA ws.length wc) (.bool off) (.int .u64 falls) (.int .i64 fuse))
    have hq := HE.out.cell
    have q0 := hq 0
    have q1 := hq 1
    have q2 := hq 2
    have q3 := hq 3
    have q4 := hq 4
    have q5 := hq 5
    have q6 := hq 6
    simp only [List.getElem?_toArray, List.getElem?_cons_zero, List.getElem?_cons_succ] at q0 q1 q2 q3 q4 q5 q6
    clear hq
    refine bodyPost_ret (v := .tuple #[.int .i64 6, .agg #[.int .i64 (n : Int), .int .i64 (c : Int), .slice kA k.length kc, .slice wA ws.length wc, .bool off, .int .u64 falls, .int .i64 fuse]]) (by simp [results, Try.results36, go_sem, q0, q1, q2, q3, q4, q5, q6]) rfl ?_
    have hs0 := HS0.out
    have hG := grown_put7 W0 (w.heap.size + 1) (.int .i64 (n : Int)) (.int .i64 (c : Int)) (.slice kA k.length kc) (.slice wA ws.length wc) (.bool off) (.int .u64 falls) (.int .i64 fuse)
    have hW := (HB0.out.grown hG (by omega) (fun k hk => by injection hk with hk; omega)).drew
    rw [HY.out.1, HY.out.2]
    exact ⟨⟨n, c, kA, kc, k, wA, wc, ws, off, falls, fuse⟩, rfl, HP.out, ((H.out.below HB0.out).grown HZ0.out hG).below ((Below.refl _ _).drew), hW⟩
  by_cases g4 : (n : Int) ≤ a
  · have HY := hide_ (serrP_no (p := p) (i := i) (a := a) b (by rw [← HP.out]; show ¬((0 ≤ i ∧ i < (c : Int)) ∧ 0 ≤ a ∧ a < (n : Int)); omega))
    go_enter Try.func36, Try.ntmps36
    go_upto_region 1 with fail
    rw [HW0.out]
    have hcx := HX0.out.cell
    have hcz := HZ0.out.cell
    have hfz := HZ0.out.free9
    go_wp2
    go_region
    go_wp2
    clear hcx hcz hfz
    have HE := hide_ (HZ0.out.put7 (.int .i64 (n : Int)) (.int .i64 (c : Int)) (.slice kA k.length kc) (.slice wA ws.length wc) (.bool off) (.int .u64 falls) (.int .i64 fuse))
    have hq := HE.out.cell
    have q0 := hq 0
    have q1 := hq 1
    have q2 := hq 2
    have q3 := hq 3
    have q4 := hq 4
    have q5 := hq 5
    have q6 := hq 6
    simp only [List.getElem?_toArray, List.getElem?_cons_zero, List.getElem?_cons_succ] at q0 q1 q2 q3 q4 q5 q6
    clear hq
    refine bodyPost_ret (v := .tuple #[.int .i64 6, .agg #[.int .i64 (n : Int), .int .i64 (c : Int), .slice kA k.length kc, .slice wA ws.length wc, .bool off, .int .u64 falls, .int .i64 fuse]]) (by simp [results, Try.results36, go_sem, q0, q1, q2, q3, q4, q5, q6]) rfl ?_
    have hs0 := HS0.out
    have hG := grown_put7 W0 (w.heap.size + 1) (.int .i64 (n : Int)) (.int .i64 (c : Int)) (.slice kA k.length kc) (.slice wA ws.length wc) (.bool off) (.int .u64 falls) (.int .i64 fuse)
    have hW := (HB0.out.grown hG (by omega) (fun k hk => by injection hk with hk; omega)).drew
    rw [HY.out.1, HY.out.2]
    exact ⟨⟨n, c, kA, kc, k, wA, wc, ws, off, falls, fuse⟩, rfl, HP.out, ((H.out.below HB0.out).grown HZ0.out hG).below ((Below.refl _ _).drew), hW⟩
  obtain ⟨iN, rfl⟩ : ∃ j : Nat, i = (j : Int) := ⟨i.toNat, by omega⟩
  obtain ⟨aN, rfl⟩ : ∃ j : Nat, a = (j : Int) := ⟨a.toNat, by omega⟩
  have hsp := serrP_in (p := p) (i := (iN : Int)) (a := (aN : Int)) (by rw [← HP.out]; show (0 ≤ (iN : Int) ∧ (iN : Int) < (c : Int)) ∧ 0 ≤ (aN : Int) ∧ (aN : Int) < (n : Int); omega)
  have hkl : k.length = c := H.out.sz.2.2.2.1
  have hiN : iN < k.length := by omega
  obtain ⟨s0, hs0⟩ : ∃ s, k[iN]? = some s := ⟨_, List.getElem?_eq_getElem hiN⟩
  have hsl : s0.length = n := H.out.kl s0 (List.mem_of_getElem? hs0)
  have haN : aN < s0.length := by omega
  obtain ⟨y, hy⟩ : ∃ y, s0[aN]? = some y := ⟨_, List.getElem?_eq_getElem haN⟩
  have hY : spoilP p (iN : Int) (aN : Int) b = settledP p [(iN, s0.set aN (y ^^^ b))] := by
    rw [spoilP, if_pos hsp, ← HP.out]
    simp only [RdM.p, settledP, List.foldl_cons, List.foldl_nil, setl, Int.toNat_natCast, List.getD_eq_getElem?_getD, hs0, hy, Option.getD_some]
  have HY := hide_ (And.intro hsp hY)
  obtain ⟨kb, ko, rfl, hkb, hfl⟩ := (Sees.ownRow9 (H.out.below HB0.out).k).flat (by rw [strC_length]; show 0 < k.length; omega)
  have hck := hfl iN (.string (strOf s0)) (by unfold strC; rw [List.getElem?_map, hs0]; rfl)
  obtain ⟨cp, W1, hcv, hb1, hs1, hcl⟩ := bytes_of12 s0 W0
  obtain ⟨hc1, hf1⟩ := hcl aN y hy
  have HB1 := hide_ hb1
  have HX1 := hide_ (HX0.out.below hb1)
  have HZ1 := hide_ (HZ0.out.below hb1)
  have HO1 := hide_ (H.out.below (HB0.out.trans (hb1.mono HB0.out.size)))
  have HBB := hide_ (HB0.out.trans (hb1.mono HB0.out.size))
  have HCL := hide_ hcl
  have HS1 := hide_ hs1
  have HQ := hide_ (show iN < c ∧ (s0.set aN (y ^^^ b)).length = n from ⟨by omega, by rw [List.length_set]; exact hsl⟩)
  have HAN := hide_ haN
  have hx8 := xor12 y b
  rw [hsl] at hcv
  have haN2 : aN < n := by omega
  clear hsp hkl hs0 hY hkb hfl hcl hb1 hs1 hy haN
  go_enter Try.func36, Try.ntmps36
  go_upto_region 1 with fail
  rw [HW0.out]
  have hcx := HX0.out.cell
  go_upto_region 5 with fail
  obtain ⟨W2, hW2⟩ : ∃ W, W1.setCell ⟨W0.heap.size, aN, none⟩ (.int .u8 ((y.toNat ^^^ b.toNat : Nat) : Int)) = W := ⟨_, rfl⟩
  rw [hW2]
  have hG2 : W1.grownBy W2 (some W0.heap.size) := hW2 ▸ grown_set (World.grownBy.refl W1 _) aN _
  have hb2 : Below W0.heap.size W0 W2 := HB1.out.grown hG2 HB1.out.size (fun k hk => by injection hk with hk; omega)
  obtain ⟨s1, hs1⟩ : ∃ s, s0.set aN (y ^^^ b) = s := ⟨_, rfl⟩
  have hsee : Sees W2 (W0.heap.size + 1) (some ⟨W0.heap.size, 0, none⟩) (bv s1) := fun _ => ⟨_, rfl, by simp, fun j u hu => by
    rw [Addr.add_lit, Nat.zero_add, ← hW2]
    rw [bv_getElem?, ← hs1] at hu
    by_cases hj : j = aN
    · subst hj
      rw [World.cell?_setCell_same _ _ _ hc1]
      rw [List.getElem?_set_self HAN.out] at hu
      rw [← hu, Option.map_some, UInt8.toNat_xor]
    · rw [List.getElem?_set_ne (fun e => hj e.symm)] at hu
      rw [World.cell?_setCell_other _ _ _ _ (fun e => by injection e with _ e; exact hj e.symm)]
      cases hz : s0[j]? with
      | none =>
        rw [hz] at hu
        cases hu
      | some z =>
        rw [hz] at hu
        rw [← hu]
        exact (HCL.out j z hz).1⟩
  rw [hs1] at HQ HY
  have hcv2 := run_str (P := Try.prog) W2 38 9 5 Try.underlying38 Try.underlying5 Try.underlying9 s1 _ (some ⟨W0.heap.size, 0, none⟩) n cp HQ.out.2 hsee
  have hb3 := hb2.alloc hb2.size (.cells #[.int .i64 (iN : Int), .string (strOf s1)] 78)
  have hok3 := (H.out.below HB0.out).below hb3
  have HS3 := hide_ (HST.out (iN, s1) _ hok3 (W2.heap.size + 1) (some ⟨W2.heap.size, 0, none⟩) (sees_box W2 #[.int .i64 (iN : Int), .string (strOf s1)] 78 _ rfl) (by simp) HQ.out)
  have HX2 := hide_ (HX0.out.below hb2)
  have HZ3 := hide_ (HZ0.out.below hb3)
  have HB3 := hide_ (HB0.out.trans (hb3.mono HB0.out.size))
  clear hc1 hf1 hG2 hsee hs1 hb2 hb3 hok3 hcx hW2 hcv
  have hcx := HX2.out.cell
  go_wp2_with fail
  refine HS3.out.mono ?_
  rintro e w2 ⟨x2, rfl, hp2, hok2, hb2⟩
  obtain ⟨n2, c2, kA2, kc2, k2, wA2, wc2, ws2, off2, falls2, fuse2⟩ := x2
  have HZ4 := hide_ (HZ3.out.below hb2)
  have HO4 := hide_ hok2
  have HP4 := hide_ hp2
  have HB4 := hide_ (HB3.out.trans (hb2.mono HB3.out.size))
  have hs4 : w.heap.size + 1 < w2.heap.size := by have h1 := HZ4.out.lt; omega
  have HS4 := hide_ hs4
  clear hp2 hok2 hb2 hcx hs4
  simp only [RdM.v, RdM.cs]
  have hcz := HZ4.out.cell
  have hfz := HZ4.out.free9
  go_wp2
  clear hcz hfz
  have HE := hide_ (HZ4.out.put7 (.int .i64 (n2 : Int)) (.int .i64 (c2 : Int)) (.slice kA2 k2.length kc2) (.slice wA2 ws2.length wc2) (.bool off2) (.int .u64 falls2) (.int .i64 fuse2))
  have hq := HE.out.cell
  have q0 := hq 0
  have q1 := hq 1
  have q2 := hq 2
  have q3 := hq 3
  have q4 := hq 4
  have q5 := hq 5
  have q6 := hq 6
  simp only [List.getElem?_toArray, List.getElem?_cons_zero, List.getElem?_cons_succ] at q0 q1 q2 q3 q4 q5 q6
  clear hq
  refine bodyPost_ret (v := .tuple #[.int .i64 0, .agg #[.int .i64 (n2 : Int), .int .i64 (c2 : Int), .slice kA2 k2.length kc2, .slice wA2 ws2.length wc2, .bool off2, .int .u64 falls2, .int .i64 fuse2]]) (by simp [results, Try.results36, go_sem, q0, q1, q2, q3, q4, q5, q6]) rfl ?_
  have hs4 := HS4.out
  have hG := grown_put7 w2 (w.heap.size + 1) (.int .i64 (n2 : Int)) (.int .i64 (c2 : Int)) (.slice kA2 k2.length kc2) (.slice wA2 ws2.length wc2) (.bool off2) (.int .u64 falls2) (.int .i64 fuse2)
  have hW := HB4.out.grown hG (by omega) (fun k hk => by injection hk with hk; omega)
  rw [HY.out.1, HY.out.2]
  exact ⟨⟨n2, c2, kA2, kc2, k2, wA2, wc2, ws2, off2, falls2, fuse2⟩, rfl, HP4.out, HO4.out.grown HZ4.out hG, hW⟩
end Go.Proofs.Ytcpoppfifadbiaa
