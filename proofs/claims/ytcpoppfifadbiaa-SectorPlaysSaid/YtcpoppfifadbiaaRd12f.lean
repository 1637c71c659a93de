/-
  Contracts of the document's Read and New.
-/
import Derived.Test.YtcpoppfifadbiaaRd12e
namespace Go.Proofs.Ytcpoppfifadbiaa
open Go.RowKit

theorem readP_no {p : RP} {i : Int} {e : Int} (h : rerrP p i = e) (h0 : e ≠ 0) : readP p i = [] := by
  rw [readP, h, if_neg h0]
theorem readP_in {p : RP} {i : Int} (h : rerrP p i = 0) : readP p i = lastP (p.k.getD i.toNat []) i p.ws := by
  rw [readP, if_pos h]

set_option maxRecDepth 100000 in
set_option maxHeartbeats 1600000 in
theorem refRead12_any (x : RdM) (i : Int) (w : World) (h : RdM.ok w x) : Calls Try.prog 29 #[x.v, .int .i64 i] w fun e w' => e = .returned (.tuple #[.string (strOf (readP x.p i)), .int .i64 (rerrP x.p i)]) ∧ Below w.heap.size w w' := by
  have H := hide_ h
  obtain ⟨n, c, kA, kc, k, wA, wc, ws, off, falls, fuse⟩ := x
  simp only [RdM.v, RdM.cs]
  obtain ⟨p, hp⟩ : ∃ p, RdM.p ⟨n, c, kA, kc, k, wA, wc, ws, off, falls, fuse⟩ = p := ⟨_, rfl⟩
  rw [hp]
  have HP := hide_ hp
  obtain ⟨W0, hW0⟩ : ∃ W0, w.alloc (.cells #[.int .i64 (n : Int), .int .i64 (c : Int), .slice kA k.length kc, .slice wA ws.length wc, .bool off, .int .u64 falls, .int .i64 fuse] 34) = W0 := ⟨_, rfl⟩
  have hx0 : BoxAt W0 w.heap.size #[.int .i64 (n : Int), .int .i64 (c : Int), .slice kA k.length kc, .slice wA ws.length wc, .bool off, .int .u64 falls, .int .i64 fuse] 34 := hW0 ▸ BoxAt.new w _ _
  have hb0 : Below w.heap.size w W0 := hW0 ▸ (Below.refl _ _).alloc (Nat.le_refl _) _
  have HW0 := hide_ hW0
  have HX0 := hide_ hx0
  have HB0 := hide_ hb0
  have hlen := h.sz.2.2.2.2
  simp only at hlen
  clear hW0 hx0 hb0 h hp
  have hoff : (off = true) ∨ off = false := by cases off <;> simp
  have strE : strOf [] = { data := #[] } := rfl
  rcases hoff with rfl | rfl
  · have he := rerrP_off (p := p) i (by rw [← HP.out]; rfl)
    have HE := hide_ he
    have HR := hide_ (readP_no he (by decide))
    clear he
    go_enter Try.func29, Try.ntmps29
    go_upto_region 1 with fail
    rw [HW0.out]
    have hcx := HX0.out.cell
    go_wp2
    go_ret2
    exact ⟨by rw [HE.out, HR.out]; rfl, HB0.out⟩
  by_cases hi0 : i < 0
  · have he := rerrP_out (p := p) (i := i) (by rw [← HP.out]; rfl) (.inl hi0)
    have HE := hide_ he
    have HR := hide_ (readP_no he (by decide))
    clear he
    go_enter Try.func29, Try.ntmps29
    go_upto_region 1 with fail
    rw [HW0.out]
    have hcx := HX0.out.cell
    go_wp2
    go_ret2
    exact ⟨by rw [HE.out, HR.out]; rfl, HB0.out⟩
  by_cases hic : (c : Int) ≤ i
  · have he := rerrP_out (p := p) (i := i) (by rw [← HP.out]; rfl) (.inr (by rw [← HP.out]; exact hic))
    have HE := hide_ he
    have HR := hide_ (readP_no he (by decide))
    clear he
    go_enter Try.func29, Try.ntmps29
    go_upto_region 1 with fail
    rw [HW0.out]
    have hcx := HX0.out.cell
    go_wp2
    go_ret2
    exact ⟨by rw [HE.out, HR.out]; rfl, HB0.out⟩
  have he := rerrP_in (p := p) (i := i) (by rw [← HP.out]; rfl) ⟨by omega, by rw [← HP.out]; show i < (c : Int); omega⟩
  have HE := hide_ he
  have HR := hide_ (readP_in he)
  obtain ⟨iN, rfl⟩ : ∃ k : Nat, i = (k : Int) := ⟨i.toNat, by omega⟩
  have hkl : k.length = c := H.out.sz.2.2.2.1
  have hiN : iN < k.length := by omega
  obtain ⟨b, o, rfl, -, hfl⟩ := (Sees.ownRow9 (H.out.below HB0.out).k).flat (by rw [strC_length]; show 0 < k.length; omega)
  have hck := hfl iN (.string (strOf (k.getD iN []))) (by unfold strC; rw [List.getElem?_map, List.getD_eq_getElem?_getD, List.getElem?_eq_getElem hiN]; rfl)
  have HWS := hide_ (Sees.ownRow9 (H.out.below HB0.out).ws)
  obtain ⟨s0, hs0⟩ : ∃ s, k.getD iN [] = s := ⟨_, rfl⟩
  rw [hs0] at hck
  have HR := hide_ (show readP p (iN : Int) = lastP s0 (iN : Int) ws by rw [HR.out, ← HP.out, Int.toNat_natCast, ← hs0]; rfl)
  clear he hfl hs0 hkl
  go_enter Try.func29, Try.ntmps29
  go_upto_region 1 with fail
  rw [HW0.out]
  have hcx := HX0.out.cell
  go_wp2
  go_loop [6, 7, 26] (fun sv _ j => ∃ m : Nat, m ≤ ws.length ∧ j = .int .i64 (m : Int) ∧ sv = .string (strOf (lastP s0 (iN : Int) (ws.take m)))) (fun _ _ j => ws.length - (intOf j).toNat)
  case atStart => exact ⟨0, Nat.zero_le _, rfl, rfl⟩
  case round =>
    obtain ⟨m, hm, rfl, rfl⟩ := hrel
    by_cases hlt : m < ws.length
    case neg =>
      obtain rfl : m = ws.length := by omega
      have htk : ws.take ws.length = ws := List.take_of_length_le (Nat.le_refl _)
      rw [htk]
      go_wp2
      go_ret2
      exact ⟨by rw [HE.out, HR.out]; rfl, HB0.out⟩
    case pos =>
      obtain ⟨⟨qi, qs⟩, hq⟩ : ∃ q, ws[m]? = some q := ⟨_, List.getElem?_eq_getElem hlt⟩
      have htk : ws.take (m + 1) = ws.take m ++ [(qi, qs)] := by rw [List.take_add_one, hq]; rfl
      have hst : lastP s0 (iN : Int) (ws.take (m + 1)) = if (qi : Int) = (iN : Int) then qs else lastP s0 (iN : Int) (ws.take m) := by
        rw [htk]
        unfold lastP
        rw [List.foldl_append]
        rfl
      have HST := hide_ hst
      obtain ⟨b2, o2, rfl, -, hfl⟩ := HWS.out.flat (by rw [wC_length]; omega)
      obtain ⟨g1, g2⟩ := wC_get ws m _ hq
      have hc1 := hfl _ _ g1
      have hc2 := hfl _ _ g2
      rw [← Nat.add_assoc] at hc2
      simp only at hc1 hc2
      clear htk hq hfl g1 g2 hst
      by_cases hqi : qi = iN
      · subst hqi
        go_wp2
        refine ⟨⟨m + 1, hlt, rfl, ?_⟩, by simp only [intOf]; omega⟩
        rw [HST.out, if_pos rfl]
      · have hne : ((qi : Int) == (iN : Int)) = false := beq_eq_false_iff_ne.2 (by omega)
        go_wp2
        refine ⟨⟨m + 1, hlt, rfl, ?_⟩, by simp only [intOf]; omega⟩
        rw [HST.out, if_neg (by omega)]
/-- a new disk -/
def newP (n c : Nat) : RP := ⟨n, c, List.replicate c (List.replicate n 0), [], false, 0, -1⟩
structure NewAt (w : World) (n c : Nat) (j : Nat) (A : Option Addr) (cp : Nat) (wr : World) : Prop where
  x : BoxAt wr (w.heap.size + 1) #[.int .i64 (n : Int), .int .i64 (c : Int), .slice A j cp, .slice none 0 0, .bool false, .int .u64 0, .int .i64 (-1)] 34
  z : BoxAt wr w.heap.size #[.int .i64 0, .int .i64 0, .slice none 0 0, .slice none 0 0, .bool false, .int .u64 0, .int .i64 0] 34
  o : wr.ownsRow (w.heap.size + 1 + 1) 9 1 (.slice A j cp) j (strC (List.replicate j (List.replicate n 0)))
  b : Below w.heap.size w wr
  s : w.heap.size + 1 + 1 ≤ wr.heap.size

set_option maxRecDepth 100000 in
set_option maxHeartbeats 1600000 in
theorem refNew12_any (n c : Nat) (w : World) (hn : 64 ≤ n ∧ n ≤ 512) (hc : c ≤ 4096) : Calls Try.prog 10 #[.int .i64 (n : Int), .int .i64 (c : Int)] w (Ref12 w (newP n c)) := by
  have HZS := hide_ (fun (u : World) => zeros_any n (by omega) u)
  obtain ⟨zs, hzs⟩ : ∃ z, strOf (List.replicate n 0) = z := ⟨_, rfl⟩
  have HZE := hide_ hzs
  rw [hzs] at HZS
  obtain ⟨W0, hW0⟩ : ∃ W0, (w.alloc (.cells #[.int .i64 0, .int .i64 0, .slice none 0 0, .slice none 0 0, .bool false, .int .u64 0, .int .i64 0] 34)).alloc (.cells #[.int .i64 (n : Int), .int .i64 (c : Int), .slice none 0 0, .slice none 0 0, .bool false, .int .u64 0, .int .i64 (-1)] 34) = W0 := ⟨_, rfl⟩
  have hz0 : BoxAt W0 w.heap.size #[.int .i64 0, .int .i64 0, .slice none 0 0, .slice none 0 0, .bool false, .int .u64 0, .int .i64 0] 34 := hW0 ▸ (BoxAt.new w _ _).alloc _
  have hx0 : BoxAt W0 (w.heap.size + 1) #[.int .i64 (n : Int), .int .i64 (c : Int), .slice none 0 0, .slice none 0 0, .bool false, .int .u64 0, .int .i64 (-1)] 34 := by
    have := BoxAt.new (w.alloc (.cells #[.int .i64 0, .int .i64 0, .slice none 0 0, .slice none 0 0, .bool false, .int .u64 0, .int .i64 0] 34)) #[.int .i64 (n : Int), .int .i64 (c : Int), .slice none 0 0, .slice none 0 0, .bool false, .int .u64 0, .int .i64 (-1)] 34
    rw [hW0] at this
    simpa using this
  have hb0 : Below w.heap.size w W0 := hW0 ▸ ((Below.refl _ _).alloc (Nat.le_refl _) _).alloc (by simp) _
  have hs0 : w.heap.size + 1 + 1 = W0.heap.size := by rw [← hW0]; simp
  have HN0 := hide_ (show NewAt w n c 0 none 0 W0 from ⟨hx0, hz0, World.ownsRow_nil _ _ _ _, hb0, by omega⟩)
  have HW0 := hide_ hW0
  clear hW0 hx0 hb0 hz0 hs0 hzs
  go_enter Try.func10, Try.ntmps10
  go_upto_region 2 with fail
  rw [HW0.out]
  go_wp2_with fail
  refine (HZS.out _).mono ?_
  rintro e w1 ⟨rfl, hb1⟩
  have HN1 := hide_ (show NewAt w n c 0 none 0 w1 from ⟨HN0.out.x.below hb1, HN0.out.z.below hb1, own_below HN0.out.o hb1, HN0.out.b.trans (hb1.mono HN0.out.b.size), Nat.le_trans HN0.out.s hb1.size⟩)
  clear hb1 HN0
  go_wp2
  go_loopw [7] (fun i wr => ∃ j : Nat, j ≤ c ∧ i = .int .i64 (j : Int) ∧ ∃ A cp, Hid (NewAt w n c j A cp wr)) (fun i _ => c - (intOf i).toNat)
  case atStart => exact ⟨0, Nat.zero_le _, rfl, none, 0, HN1⟩
  case round =>
    obtain ⟨j, hj, rfl, A, cp, HN⟩ := hrel
    by_cases hlt : j < c
    case neg =>
      obtain rfl : j = c := by omega
      have hcx := HN.out.x.cell
      have hcz := HN.out.z.cell
      have hfz := HN.out.z.free9
      go_wp2
      have HE := hide_ (HN.out.z.put7 (.int .i64 (n : Int)) (.int .i64 (j : Int)) (.slice A j cp) (.slice none 0 0) (.bool false) (.int .u64 0) (.int .i64 (-1)))
      have hq := HE.out.cell
      have q0 := hq 0
      have q1 := hq 1
      have q2 := hq 2
      have q3 := hq 3
      have q4 := hq 4
      have q5 := hq 5
      have q6 := hq 6
      simp only [List.getElem?_toArray, List.getElem?_cons_zero, List.getElem?_cons_succ] at q0 q1 q2 q3 q4 q5 q6
      clear hq hcx hcz hfz
      refine bodyPost_ret (v := .agg #[.int .i64 (n : Int), .int .i64 (j : Int), .slice A j cp, .slice none 0 0, .bool false, .int .u64 0, .int .i64 (-1)]) (by simp [results, Try.results10, go_sem, q0, q1, q2, q3, q4, q5, q6]) rfl ?_
      have hG := grown_put7 wr w.heap.size (.int .i64 (n : Int)) (.int .i64 (j : Int)) (.slice A j cp) (.slice none 0 0) (.bool false) (.int .u64 0) (.int .i64 (-1))
      have hs := HN.out.s
      have e1 := own_other9 HN.out.o (HN.out.z.apart9 (by decide) HN.out.o) hG
      refine ⟨⟨n, j, A, cp, List.replicate j (List.replicate n 0), none, 0, [], false, 0, -1⟩, by simp only [RdM.v, RdM.cs, List.length_replicate]; rfl, rfl, ⟨?_, World.ownsRow_nil _ _ _ _, ⟨show (-1 : Int) ≤ 9223372036854775807 by omega, show (-1 : Int) ≤ -1 by omega⟩, ⟨hn.2, hn.1, hc, List.length_replicate, Nat.zero_le _⟩, fun l hl => ?_, fun q hq => by cases hq⟩, HN.out.b.grown hG HN.out.b.size (fun k hk => by injection hk with hk; omega)⟩
      · simp only [List.length_replicate]
        exact own_mono e1 (Nat.zero_le _)
      · rw [List.eq_of_mem_replicate hl]
        exact List.length_replicate
    case pos =>
      have HBX := hide_ (sees_box wr #[.string zs] 9 [.string zs] rfl)
      have HOA := hide_ (HN.out.o.alloc (.cells #[.string zs] 9))
      have HBA := hide_ (show w.heap.size + 1 + 1 ≤ (wr.alloc (.cells #[.string zs] 9)).heap.size from Nat.le_trans HN.out.s (by simp))
      have H1 := hide_ (show ∀ u ∈ [Value.string zs], u.oneCell' = true from fun u hu => by simp at hu; subst hu; rfl)
      have HC := hide_ (show strC (List.replicate j (List.replicate n 0)) ++ [.string zs] = strC (List.replicate (j + 1) (List.replicate n 0)) by
        unfold strC
        rw [List.replicate_succ', List.map_append, List.map_cons, List.map_nil, HZE.out])
      have hcx := HN.out.x.cell
      go_wp2_with (at_builtin; refine wpList_append_grown _ rfl _ _ 30 rfl (w.heap.size + 1 + 1) 9 (.string { data := #[] }) 1 16 str_info12 rfl (by omega) Try.underlying30 _ j _ rfl HOA.out (wr.heap.size + 1) (some ⟨wr.heap.size, 0, none⟩) 1 1 [.string zs] rfl rfl HBX.out H1.out (by omega) (by omega) HBA.out (j + 1) rfl _ HC.out ?_; intro A2 c2 w2 hown hb; have HO2 := hide_ hown; have HG2 := hide_ (show (wr.alloc (.cells #[.string zs] 9)).grownBy w2 (Value.slice A j cp).ownBlock from hb); have HX2 := hide_ ((HN.out.x.alloc (.cells #[.string zs] 9)).grown9 (by decide) HOA.out HG2.out); have hcx2 := HX2.out.cell; have hfx2 := HX2.out.free9; clear hown hb)
      have HZ2 := hide_ ((HN.out.z.alloc (.cells #[.string zs] 9)).grown9 (by decide) HOA.out HG2.out)
      have hB2 := (HN.out.b.alloc HN.out.b.size (.cells #[.string zs] 9)).grown HG2.out (Nat.le_trans (by omega) HBA.out) (fun k hk => by have := (HOA.out.lt k hk).1; omega)
      have hs2 : w.heap.size + 1 + 1 ≤ w2.heap.size := Nat.le_trans HBA.out HG2.out.size
      obtain ⟨W3, hW3⟩ : ∃ W, w2.setCell ⟨w.heap.size + 1, 2, none⟩ (.slice A2 (j + 1) c2) = W := ⟨_, rfl⟩
      rw [hW3]
      have hG3 : w2.grownBy W3 (some (w.heap.size + 1)) := hW3 ▸ grown_cell9 w2 (w.heap.size + 1) 2 _
      have hx3 : BoxAt W3 (w.heap.size + 1) #[.int .i64 (n : Int), .int .i64 (c : Int), .slice A2 (j + 1) c2, .slice none 0 0, .bool false, .int .u64 0, .int .i64 (-1)] 34 := hW3 ▸ HX2.out.set9 2 _
      have hz3 := HZ2.out.more12 hG3 (by omega)
      have ho3 := own_other9 HO2.out (HX2.out.apart9 (by decide) HO2.out) hG3
      have hb3 := hB2.grown hG3 (by omega) (fun k hk => by injection hk with hk; omega)
      exact ⟨⟨j + 1, hlt, rfl, A2, c2, hide_ ⟨hx3, hz3, ho3, hb3, Nat.le_trans hs2 hG3.size⟩⟩, by simp only [intOf]; omega⟩
end Go.Proofs.Ytcpoppfifadbiaa
