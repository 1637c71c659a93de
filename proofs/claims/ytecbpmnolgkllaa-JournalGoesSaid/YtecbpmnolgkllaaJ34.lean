/-
  Texts of this claim put together: Jn1.
-/
import Derived.Test.YtecbpmnolgkllaaJ33
import Derived.Test.YtecbpmnolgkllaaCopy7
import Derived.Deep.DeepCutAuto
/-
  Contracts of the journal's small functions: frames and seals as bytes.
-/
namespace Go.Proofs.Ytecbpmnolgkllaa
open Go.RowKit

theorem sectorsFor_any (m n : Nat) (w : World) (hm : m ≤ 1000000) (h0 : 1 ≤ n) (hn : n ≤ 100000) : Calls Try.prog 92 #[.int .i64 (m : Int), .int .i64 (n : Int)] w fun e w' => e = .returned (.int .i64 (secN m n : Int)) ∧ w = w' := by
  have h1 : IntKind.i64.wrap ((m : Int) + (n : Int)) = (m : Int) + (n : Int) := by rw [IntKind.wrap_i64]; omega
  have h2 : IntKind.i64.wrap ((m : Int) + (n : Int) - 1) = ((m + n - 1 : Nat) : Int) := by rw [IntKind.wrap_i64]; omega
  have h3 : wrap64 (((m + n - 1 : Nat) : Int) / (n : Int)) = (secN m n : Int) := by
    have : secN m n ≤ m + n - 1 := Nat.div_le_self _ _
    rw [show ((m + n - 1 : Nat) : Int) / (n : Int) = (secN m n : Int) from rfl]
    unfold wrap64
    omega
  have h4 : ((n : Int) == 0) = false := by rw [beq_eq_false_iff_ne]; omega
  have h5 : ((n : Int) = 0) = False := by simp; omega
  obtain ⟨q, hq⟩ : ∃ q, secN m n = q := ⟨_, rfl⟩
  obtain ⟨p, hp⟩ : ∃ p, m + n - 1 = p := ⟨_, rfl⟩
  rw [hq] at h3 ⊢
  rw [hp] at h2 h3
  clear hq hp hm hn
  go_enter Try.func92, Try.ntmps92
  go_wp2
  refine bodyPost_ret (v := .int .i64 (q : Int)) (by simp [results, Try.results92, go_sem, h3]) rfl ?_
  exact ⟨rfl, rfl⟩

theorem isLong_any (l : Nat) (A : Option Addr) (c : Nat) (w : World) : Calls Try.prog 29 #[.slice A l c] w fun e w' => e = .returned (.bool (decide (2048 < l))) ∧ w = w' := by
  go_enter Try.func29, Try.ntmps29
  go_wp2
  refine bodyPost_ret (v := .bool (decide (2048 < l))) (by simp [results, Try.results29, go_sem]; omega) rfl ?_
  exact ⟨rfl, rfl⟩

theorem frame_cells {h mk : List UInt8} {z m : Nat} (hh : h.length = 6) (hm : mk.length = m + 4) (hz : m + 10 ≤ z) :
    (((bv h ++ (bv (List.replicate z 0)).drop 6).take 6 ++ bv mk ++ (bv h ++ (bv (List.replicate z 0)).drop 6).drop (6 + (bv mk).length)).toArray.toList).take (z * 1) = bv (h ++ (mk ++ List.replicate (z - (m + 10)) 0)) := by
  have e1 : (h ++ (List.replicate z 0).drop 6).take 6 = h := by rw [List.take_append_of_le_length (by omega), List.take_of_length_le (by omega)]
  have e2 : (h ++ (List.replicate z 0).drop 6).drop (m + 10) = List.replicate (z - (m + 10)) (0 : UInt8) := by
    rw [List.drop_append, List.drop_of_length_le (by omega), List.nil_append, List.drop_drop, List.drop_replicate]
    congr 1
    omega
  rw [bv_length, hm, Nat.mul_one, ← bv_drop, ← bv_append, ← bv_take, e1, show 6 + (m + 4) = m + 10 from by omega, ← bv_drop, e2, ← bv_append, ← bv_append, List.append_assoc, List.take_of_length_le]
  rw [List.toList_toArray, bv_length, List.length_append, List.length_append, hh, hm, List.length_replicate]
  omega

set_option maxRecDepth 100000 in
theorem putFrame_any (l : List UInt8) (B : Nat) (A : Option Addr) (m c n : Nat) (w : World) (hl : l.length = m) (hm : m ≤ 60000) (h0 : 64 ≤ n) (hn : n ≤ 512) (hs : Sees w B A (bv l)) (hB : B ≤ w.heap.size) :
    Calls Try.prog 59 #[.slice A m c, .int .i64 (n : Int)] w (Puts w (frameB l n)) := by
  go_enter Try.func59, Try.ntmps59
  go_wp2_with fail
  refine (Mark_any l (markB l) B A m c w hl rfl (by omega) hs hB).mono ?_
  rintro e w1 ⟨A1, c1, rfl, hown1, hb1⟩
  rw [markB_length, hl] at hown1 ⊢
  have HO1 := hide_ hown1
  have HB1 := hide_ hb1
  clear hown1 hb1
  go_upto_region 2 with fail
  go_wp2_with fail
  obtain ⟨W2, hW2⟩ : ∃ W, w1.alloc (.cells #[.int .u8 (((m : Int) + 4) / 256), .int .u8 (((m : Int) + 4) % 256)] 5) = W := ⟨_, rfl⟩
  have hr2 : RowIs W2 w1.heap.size [UInt8.ofNat ((m + 4) / 256), UInt8.ofNat (m + 4)] := by
    refine ⟨_, hW2 ▸ heap_alloc_new w1 _, ?_⟩
    simp [bv]
    omega
  have HB2 := hide_ (HB1.out.trans ((hW2 ▸ (Below.refl w1.heap.size w1).alloc (Nat.le_refl _) _ : Below w1.heap.size w1 W2).mono HB1.out.size))
  have HO2 := hide_ (own_below HO1.out (hW2 ▸ (Below.refl w1.heap.size w1).alloc (Nat.le_refl _) _ : Below w1.heap.size w1 W2))
  rw [hW2]
  refine (Mark_any [UInt8.ofNat ((m + 4) / 256), UInt8.ofNat (m + 4)] (headB (m + 4)) W2.heap.size _ 2 2 W2 rfl rfl (by omega) hr2.sees (Nat.le_refl _)).mono ?_
  clear hr2 hW2 HO1 HB1
  rintro e w3 ⟨A3, c3, rfl, hown3, hb3⟩
  rw [headB_len] at hown3 ⊢
  have HB3 := hide_ (HB2.out.trans (hb3.mono HB2.out.size))
  have HO3 := hide_ hown3
  have HO1 := hide_ (own_below HO2.out hb3)
  clear hown3 hb3 HO2
  go_wp2_with fail
  rw [show (6 : Int) + ((m : Int) + 4) = ((m + 10 : Nat) : Int) from by omega]
  refine (sectorsFor_any (m + 10) n w3 (by omega) (by omega) (by omega)).mono ?_
  rintro e w' ⟨rfl, rfl⟩
  have hq1 := secN_ge (m := m + 10) (n := n) (by omega)
  have hq2 := secN_lt (m := m + 10) (n := n) (by omega)
  have HFR := hide_ (show headB (m + 4) ++ (markB l ++ List.replicate (secN (m + 10) n * n - (m + 10)) 0) = frameB l n from by rw [frameB, hl])
  obtain ⟨q, hq⟩ : ∃ q, secN (m + 10) n = q := ⟨_, rfl⟩
  obtain ⟨z, hz⟩ : ∃ z, q * n = z := ⟨_, rfl⟩
  rw [hq, hz] at hq1 hq2 HFR
  rw [hq]
  have hmul : (q : Int) * (n : Int) = (z : Int) := by rw [← hz]; exact (Int.natCast_mul q n).symm
  clear hq hz
  have hmk := make12 z (by omega) w3
  obtain ⟨W4, hW4⟩ : ∃ W, w3.alloc (.cells (zs12 z) 5) = W := ⟨_, rfl⟩
  rw [hW4] at hmk
  have hb4 : Below w3.heap.size w3 W4 := hW4 ▸ (Below.refl w3.heap.size w3).alloc (Nat.le_refl _) _
  have hr4 : W4.heap[w3.heap.size]? = some (.cells (zs12 z) 5 (0, 0)) := hW4 ▸ heap_alloc_new w3 _
  obtain ⟨w5, hcp5, hr5, hg5, hsz5⟩ := run_copy_start (P := Try.prog) W4 38 38 3 5 Try.underlying38 u8_one w3.heap.size z z w3.heap.size A3 6 c3
    (zs12 z) 5 hr4 (bv (headB (m + 4))) (by rw [bv_length, headB_len]) (by omega) (by rw [zs12_size]; omega) (bv_oneCell _) ((Sees.own HO3.out).below hb4)
  have hs1 := ((Sees.own HO1.out).below hb4).grown hg5 hb4.size
  obtain ⟨ad, had, hab, hac⟩ := hs1 (by rw [bv_length, markB_length]; omega)
  have hsz : (bv (headB (m + 4)) ++ (zs12 z).toList.drop 6).toArray.size = z := by
    rw [List.size_toArray, List.length_append, bv_length, headB_len, List.length_drop, Array.length_toList, zs12_size]
    omega
  have hml : (bv (markB l)).length = m + 4 := by rw [bv_length, markB_length, hl]
  obtain ⟨w6, hcp6, hr6, hg6, hsz6⟩ := run_copy_named (P := Try.prog) w5 38 38 5 1 w3.heap.size 6 (z - 6) (z - 6) ad (m + 4) c1 (m + 4) _ 5 (bv (markB l)) Try.underlying38 u8_one hr5
    (by show min (m + 4) (z - 6) = m + 4; omega) (by rw [hml]; omega) (fun j v hv => by have := hac j v hv; exact this) (by rw [hsz, hml]; omega) (bv_oneCell _)
  have hcp6 := hcp6 3
  subst had
  have HR6 := hide_ (show w6.ownsRow w.heap.size 5 1 (.slice (some ⟨w3.heap.size, 0, none⟩) z z) z (bv (frameB l n)) from by
    have hfl : (frameB l n).length = z := by
      rw [← HFR.out, List.length_append, List.length_append, headB_len, markB_length, zs_len]
      omega
    refine ⟨by rw [bv_length, hfl]; omega, .inr ⟨w3.heap.size, _, _, rfl, HB3.out.size, hr6, Nat.le_refl _, by unfold maxLen; omega, ?_, ?_⟩⟩
    · rw [List.size_toArray, List.length_append, List.length_append, List.length_take, List.length_drop, hml]
      simp only [List.length_append, bv_length, headB_len, List.length_drop, Array.length_toList, zs12_size]
      omega
    · rw [← HFR.out]
      have ez : (zs12 z).toList = bv (List.replicate z 0) := zs12_bv z
      simp only
      rw [ez]
      exact frame_cells (headB_len _) (by rw [markB_length, hl]) hq1)
  have hB4 : Below w.heap.size w W4 := HB3.out.trans (hb4.mono HB3.out.size)
  have hB5 : Below w.heap.size w w5 := hB4.grown hg5 hB4.size (fun k hk => by cases hk; exact HB3.out.size)
  have HB6 := hide_ (show Below w.heap.size w w6 from hB5.grown hg6 hB5.size (fun k hk => by cases hk; exact HB3.out.size))
  have HFL := hide_ (show (frameB l n).length = z from by
    rw [← HFR.out, List.length_append, List.length_append, headB_len, markB_length, zs_len]
    omega)
  clear hW4 hB4 hB5 hb4 hr4 hr5 hg5 hsz5 hs1 hab hac hsz hml hr6 hg6 hsz6
  go_wp2
  go_ret
  exact ⟨_, z, by rw [HFL.out]; exact rfl, by rw [HFL.out]; exact HR6.out, HB6.out⟩

set_option maxRecDepth 100000 in
theorem putRecord_any (g i : Nat) (r : List UInt8) (B : Nat) (A : Option Addr) (m c n : Nat) (w : World) (hg : g < 18446744073709551616) (hi : i < 18446744073709551616) (hr : r.length = m) (hm : m ≤ 10000) (h0 : 64 ≤ n) (hn : n ≤ 512) (hs : Sees w B A (bv r)) (hB : B ≤ w.heap.size) :
    Calls Try.prog 30 #[.int .u64 (g : Int), .int .u64 (i : Int), .slice A m c, .int .i64 (n : Int)] w (Puts w (frameB (recB g i r) n)) := by
  have l1 := numB_length g hg
  have l2 := numB_length i hi
  have l3 := recB_len (g := g) (i := i) (r := r) hg hi (by omega)
  have L1 := hide_ (show (numB g ++ numB i).length ≤ 20 from by rw [List.length_append]; omega)
  have L3 := hide_ l3
  have HS := hide_ hs
  have HR := hide_ hr
  have H1 := hide_ (PutNum_any [] (numB g) g w.heap.size none 0 0 w rfl (by simp) hg (Sees.empty _ _ _) (Nat.le_refl _) (by simp))
  clear l3 l2 hr hs
  go_enter Try.func30, Try.ntmps30
  go_wp2_with fail
  refine H1.out.mono ?_
  rintro e w1 ⟨A1, c1, rfl, hown1, hb1⟩
  have HB1 := hide_ hb1
  have H2 := hide_ (PutNum_any (numB g) (numB g ++ numB i) i w1.heap.size A1 (numB g).length c1 w1 rfl rfl hi (Sees.own hown1) (Nat.le_refl _) (by omega))
  clear hown1 hb1 H1 l1
  obtain ⟨n1, hn1⟩ : ∃ k, (numB g).length = k := ⟨_, rfl⟩
  rw [hn1] at H2 ⊢
  clear hn1
  go_wp2_with fail
  refine H2.out.mono ?_
  rintro e w2 ⟨A2, c2, rfl, hown2, hb2⟩
  have HB2 := hide_ (HB1.out.trans (hb2.mono HB1.out.size))
  have H3 := hide_ (PutRow_any (numB g ++ numB i) r (recB g i r) w2.heap.size A2 A (numB g ++ numB i).length m c2 c w2 rfl HR.out (by rw [recB]) (Sees.own hown2) ((HS.out.below (HB2.out.mono hB)).more (Nat.le_trans hB HB2.out.size)) (Nat.le_refl _) (by have := L1.out; omega) (by have := HR.out; omega))
  obtain ⟨n2, hn2⟩ : ∃ k, (numB g ++ numB i).length = k := ⟨_, rfl⟩
  rw [hn2] at H3 ⊢
  clear hown2 hb2 H2 HB1 hn2
  go_wp2_with fail
  refine H3.out.mono ?_
  rintro e w3 ⟨A3, c3, rfl, hown3, hb3⟩
  have HB3 := hide_ (HB2.out.trans (hb3.mono HB2.out.size))
  have H4 := hide_ (putFrame_any (recB g i r) w3.heap.size A3 (recB g i r).length c3 n w3 rfl (by have := L3.out; have := HR.out; omega) h0 hn (Sees.own hown3) (Nat.le_refl _))
  obtain ⟨n3, hn3⟩ : ∃ k, (recB g i r).length = k := ⟨_, rfl⟩
  rw [hn3] at H4 ⊢
  clear hown3 hb3 H3 HB2 hn3
  go_wp2_with fail
  refine H4.out.mono ?_
  rintro e w4 ⟨A4, c4, rfl, hown4, hb4⟩
  have HB4 := hide_ (HB3.out.trans (hb4.mono HB3.out.size))
  have HO4 := hide_ hown4
  obtain ⟨n4, hn4⟩ : ∃ k, (frameB (recB g i r) n).length = k := ⟨_, rfl⟩
  have HN4 := hide_ hn4
  rw [hn4]
  clear hown4 hb4 hn4 H4
  go_wp2
  go_ret
  exact ⟨A4, c4, by rw [HN4.out]; exact rfl, own_mono HO4.out HB3.out.size, HB4.out⟩

/-- a seal's fields as a value -/
def seV (t g k : Nat) : Value := .agg #[.int .u64 (t : Int), .int .u64 (g : Int), .int .u64 (k : Int)]

set_option maxRecDepth 100000 in
theorem place_any (t g k : Nat) (w : World) : Calls Try.prog 62 #[seV t g k] w fun e w' => e = .returned (.int .i64 ((t % 2 : Nat) : Int)) ∧ Below w.heap.size w w' := by
  unfold seV
  have hb : Below w.heap.size w (w.alloc (.cells #[.int .u64 (t : Int), .int .u64 (g : Int), .int .u64 (k : Int)] 75)) := (Below.refl _ _).alloc (Nat.le_refl _) _
  have c0 := (BoxAt.new w #[.int .u64 (t : Int), .int .u64 (g : Int), .int .u64 (k : Int)] 75).cell 0
  simp at c0
  have HB := hide_ hb
  obtain ⟨q, hq⟩ : ∃ q, t % 2 = q := ⟨_, rfl⟩
  have h1 : (t : Int) % 2 = (q : Int) := by omega
  have h2 : q < 2 := by omega
  rw [hq]
  clear hb hq
  go_enter Try.func62, Try.ntmps62
  go_wp2
  go_ret
  exact ⟨rfl, HB.out⟩

set_option maxRecDepth 100000 in
theorem putSeal_any (t g k n : Nat) (w : World) (ht : t < 18446744073709551616) (hg : g < 18446744073709551616) (hk : k < 18446744073709551616) (h0 : 64 ≤ n) (hn : n ≤ 512) :
    Calls Try.prog 63 #[seV t g k, .int .i64 (n : Int)] w (Puts w (frameB (sealB t g k) n)) := by
  unfold seV
  have hb : Below w.heap.size w (w.alloc (.cells #[.int .u64 (t : Int), .int .u64 (g : Int), .int .u64 (k : Int)] 75)) := (Below.refl _ _).alloc (Nat.le_refl _) _
  have hbx := BoxAt.new w #[.int .u64 (t : Int), .int .u64 (g : Int), .int .u64 (k : Int)] 75
  obtain ⟨W0, hW0⟩ : ∃ W, w.alloc (.cells #[.int .u64 (t : Int), .int .u64 (g : Int), .int .u64 (k : Int)] 75) = W := ⟨_, rfl⟩
  rw [hW0] at hb hbx
  have HB0 := hide_ hb
  have HX0 := hide_ hbx
  have HW0 := hide_ hW0
  have l1 := numB_length t ht
  have l2 := numB_length g hg
  have L1 := hide_ (show (numB t ++ numB g).length ≤ 20 from by rw [List.length_append]; omega)
  have L3 := hide_ (sealB_len ht hg hk)
  have H1 := hide_ (PutNum_any [] (numB t) t W0.heap.size none 0 0 W0 rfl (by simp) ht (Sees.empty _ _ _) (Nat.le_refl _) (by simp))
  clear hb hbx hW0 l2
  go_enter Try.func63, Try.ntmps63
  go_upto_region 1 with fail
  rw [HW0.out]
  have c0 := HX0.out.cell 0
  simp at c0
  go_wp2_with fail
  refine H1.out.mono ?_
  rintro e w1 ⟨A1, c1, rfl, hown1, hb1⟩
  have HB1 := hide_ (HB0.out.trans (hb1.mono HB0.out.size))
  have HX1 := hide_ (HX0.out.below hb1)
  have H2 := hide_ (PutNum_any (numB t) (numB t ++ numB g) g w1.heap.size A1 (numB t).length c1 w1 rfl rfl hg (Sees.own hown1) (Nat.le_refl _) (by omega))
  obtain ⟨n1, hn1⟩ : ∃ k, (numB t).length = k := ⟨_, rfl⟩
  rw [hn1] at H2 ⊢
  clear hown1 hb1 H1 l1 hn1 c0
  have c1' := HX1.out.cell 1
  simp at c1'
  go_wp2_with fail
  refine H2.out.mono ?_
  rintro e w2 ⟨A2, c2, rfl, hown2, hb2⟩
  have HB2 := hide_ (HB1.out.trans (hb2.mono HB1.out.size))
  have HX2 := hide_ (HX1.out.below hb2)
  have H3 := hide_ (PutNum_any (numB t ++ numB g) (sealB t g k) k w2.heap.size A2 (numB t ++ numB g).length c2 w2 rfl (by rw [sealB]) hk (Sees.own hown2) (Nat.le_refl _) (by have := L1.out; omega))
  obtain ⟨n2, hn2⟩ : ∃ k, (numB t ++ numB g).length = k := ⟨_, rfl⟩
  rw [hn2] at H3 ⊢
  clear hown2 hb2 H2 HB1 HX1 hn2 c1'
  have c2' := HX2.out.cell 2
  simp at c2'
  go_wp2_with fail
  refine H3.out.mono ?_
  rintro e w3 ⟨A3, c3, rfl, hown3, hb3⟩
  have HB3 := hide_ (HB2.out.trans (hb3.mono HB2.out.size))
  have H4 := hide_ (putFrame_any (sealB t g k) w3.heap.size A3 (sealB t g k).length c3 n w3 rfl (by have := L3.out; omega) h0 hn (Sees.own hown3) (Nat.le_refl _))
  obtain ⟨n3, hn3⟩ : ∃ q, (sealB t g k).length = q := ⟨_, rfl⟩
  rw [hn3] at H4 ⊢
  clear hown3 hb3 H3 HB2 HX2 hn3 c2'
  go_wp2_with fail
  refine H4.out.mono ?_
  rintro e w4 ⟨A4, c4, rfl, hown4, hb4⟩
  have HB4 := hide_ (HB3.out.trans (hb4.mono HB3.out.size))
  have HO4 := hide_ hown4
  obtain ⟨n4, hn4⟩ : ∃ q, (frameB (sealB t g k) n).length = q := ⟨_, rfl⟩
  have HN4 := hide_ hn4
  rw [hn4]
  clear hown4 hb4 hn4 H4
  go_wp2
  go_ret
  exact ⟨A4, c4, by rw [HN4.out]; exact rfl, own_mono HO4.out HB3.out.size, HB4.out⟩
end Go.Proofs.Ytecbpmnolgkllaa
